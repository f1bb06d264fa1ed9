/- Package entry: Check, over this seat's program. -/
import Derived.Test.YtakbbhngcdccpaaGreatNc
namespace Go.Proofs.YtakbbhngcdccpaaGreat
open Go.ChangeShapes Go.WideShapes Go.ChangeAt Go.RowKit
namespace En
open Ba Re

theorem spn_len (e : Ev) : (spn e).length = 10 := by
  unfold spn
  repeat' split
  all_goals rfl
/-- an event's fields -/
def fl (e : Ev) : List Int := [e.g, e.c, e.a, e.v, e.m]
def okA (e : Ev) (j : Nat) : Bool := inS (nth (fl e) j) (nth (spn e) (j * 2)) (nth (spn e) (j * 2 + 1))
def okF (e : Ev) : Bool := (List.range 5).all (okA e)
def chk (e : Ev) : Int := if e.k < 1 ∨ 13 < e.k then 1 else if (ff e && okF e) = true then 0 else 4
theorem okF_yes {e : Ev} (h : ∀ j, j < 5 → okA e j = true) : okF e = true := by
  unfold okF
  rw [List.all_eq_true]
  intro j hj
  exact h j (List.mem_range.1 hj)
theorem okF_no {e : Ev} {j : Nat} (hj : j < 5) (h : okA e j = false) : okF e = false := by
  unfold okF
  rw [List.all_eq_false]
  exact ⟨j, List.mem_range.2 hj, by rw [h]; decide⟩
theorem okF_at {e : Ev} (h : okF e = true) (j : Nat) (hj : j < 5) : okA e j = true := by
  unfold okF at h
  rw [List.all_eq_true] at h
  exact h j (List.mem_range.2 hj)
set_option maxRecDepth 100000 in
set_option maxHeartbeats 3200000 in
theorem check_any (e : Ev) (w : World) :
    Calls Tryz.prog 72 #[evv e] w fun r w' => r = .returned (.int .i64 (chk e)) ∧ Below w.heap.size w w' := by
  have FF := hide fun u => flagsFit_any e u
  have SP := hide fun u (h1 : 1 ≤ e.k) (h2 : e.k ≤ 13) => spans_any e u h1 h2
  have CK : Hid (chk e = if e.k < 1 ∨ 13 < e.k then 1 else if (ff e && okF e) = true then 0 else 4) := rfl
  have EN := hide (show EAt (w.alloc (.cells (evc e) 23)) w.heap.size e from heap_new _ _)
  have FI := hide fun u (h : EAt u w.heap.size e) => fields_any w.heap.size e u h
  have BA := hide (below_alloc w (.cells (evc e) 23))
  have YES : Hid ((∀ j, j < 5 → okA e j = true) → okF e = true) := okF_yes
  have NO : Hid (∀ j, j < 5 → okA e j = false → okF e = false) := fun _ h1 h2 => okF_no h1 h2
  have OA : Hid (∀ j, okA e j = inS (nth (fl e) j) (nth (spn e) (j * 2)) (nth (spn e) (j * 2 + 1))) := fun _ => rfl
  have SL := hide (spn_len e)
  generalize chk e = ck at CK ⊢
  generalize ff e = f0 at FF CK
  generalize okF e = o0 at CK YES NO
  generalize okA e = oA at YES NO OA
  generalize spn e = sp at SP OA SL
  have hE := hide (show evc e = #[.int .i64 e.k, .int .i64 e.g, .int .i64 e.c, .int .i64 e.a, .int .i64 e.v, .int .i64 e.m, .bool e.s, .bool e.o] from rfl)
  obtain ⟨k, g, c, a, v, m, s, o⟩ := e
  simp only at CK SP hE
  unfold evv evc at FF SP ⊢
  simp only [evc] at BA
  have EN' : Hid ((w.alloc (.cells #[.int .i64 k, .int .i64 g, .int .i64 c, .int .i64 a, .int .i64 v, .int .i64 m, .bool s, .bool o] 23)).heap[w.heap.size]? = some (.cells #[.int .i64 k, .int .i64 g, .int .i64 c, .int .i64 a, .int .i64 v, .int .i64 m, .bool s, .bool o] 23)) := EN.out
  simp only [fl] at OA
  by_cases hk : k < 1 ∨ 13 < k
  · rw [if_pos hk] at CK
    obtain rfl := CK.out
    by_cases h1 : k < 1
    · have d1 : decide (k < 1) = true := decide_eq_true h1
      clear hk CK
      go_enter Tryz.func72, Tryz.ntmps72
      go_wp2_with fail
      go_ret
      exact ⟨rfl, BA.out⟩
    · have d1 : decide (k < 1) = false := decide_eq_false h1
      have d2 : decide (13 < k) = true := decide_eq_true (by omega)
      clear hk CK
      go_enter Tryz.func72, Tryz.ntmps72
      go_wp2_with fail
      go_ret
      exact ⟨rfl, BA.out⟩
  rw [if_neg hk] at CK
  have d1 : decide (k < 1) = false := decide_eq_false (by omega)
  have d2 : decide (13 < k) = false := decide_eq_false (by omega)
  have SP2 := hide fun u => SP.out u (by omega) (by omega)
  clear hk SP
  cases f0
  · simp only [Bool.false_and, Bool.false_eq_true, if_false] at CK
    obtain rfl := CK.out
    clear CK
    go_enter Tryz.func72, Tryz.ntmps72
    go_wp2_with fail
    refine (FF.out _).mono ?_
    rintro r w1 ⟨rfl, b1⟩
    have B1 := hide (btr BA.out b1)
    clear b1
    go_wp2_with fail
    go_ret
    exact ⟨rfl, B1.out⟩
  simp only [Bool.true_and] at CK
  go_enter Tryz.func72, Tryz.ntmps72
  go_wp2_with fail
  refine (FF.out _).mono ?_
  rintro r w1 ⟨rfl, b1⟩
  have B1 := hide (btr BA.out b1)
  have E1 := hide (heap_below EN'.out b1)
  clear b1 BA EN EN'
  generalize hN : w.heap.size = N at E1 FI ⊢
  have HN := hide hN
  clear hN
  have y0 : w1.cell? ⟨N, 0, none⟩ = some (.int .i64 k) := cell_of E1.out 0
  have y1 : w1.cell? ⟨N, 1, none⟩ = some (.int .i64 g) := cell_of E1.out 1
  have y2 : w1.cell? ⟨N, 2, none⟩ = some (.int .i64 c) := cell_of E1.out 2
  have y3 : w1.cell? ⟨N, 3, none⟩ = some (.int .i64 a) := cell_of E1.out 3
  have y4 : w1.cell? ⟨N, 4, none⟩ = some (.int .i64 v) := cell_of E1.out 4
  have y5 : w1.cell? ⟨N, 5, none⟩ = some (.int .i64 m) := cell_of E1.out 5
  have y6 : w1.cell? ⟨N, 6, none⟩ = some (.bool s) := cell_of E1.out 6
  have y7 : w1.cell? ⟨N, 7, none⟩ = some (.bool o) := cell_of E1.out 7
  go_wp2_with fail
  refine (SP2.out _).mono ?_
  rintro r w2 ⟨rfl, b2⟩
  have B2 := hide (btr B1.out b2)
  have E2 := hide (heap_below E1.out b2)
  clear b2 B1 E1 y0 y1 y2 y3 y4 y5 y6 y7 SP2 FF
  obtain ⟨p0, p1, p2, p3, p4, p5, p6, p7, p8, p9, rfl⟩ : ∃ p0 p1 p2 p3 p4 p5 p6 p7 p8 p9, sp = [p0, p1, p2, p3, p4, p5, p6, p7, p8, p9] := by
    have h := SL.out
    match sp, h with
    | [p0, p1, p2, p3, p4, p5, p6, p7, p8, p9], _ => exact ⟨p0, p1, p2, p3, p4, p5, p6, p7, p8, p9, rfl⟩
  have b3 := below_alloc w2 (.cells (row [p0, p1, p2, p3, p4, p5, p6, p7, p8, p9]) 138)
  have R3 := hide (heap_new w2 (.cells (row [p0, p1, p2, p3, p4, p5, p6, p7, p8, p9]) 138))
  have B3 := hide (btr B2.out b3)
  have E3 := hide (heap_below E2.out b3)
  clear b3 B2 E2
  simp only [row, List.map_cons, List.map_nil] at R3 B3 E3 ⊢
  go_wp2_with fail
  generalize w2.alloc (.cells #[.int .i64 p0, .int .i64 p1, .int .i64 p2, .int .i64 p3, .int .i64 p4, .int .i64 p5, .int .i64 p6, .int .i64 p7, .int .i64 p8, .int .i64 p9] 138) = W3 at R3 B3 E3 ⊢
  generalize w2.heap.size = R at R3 ⊢
  refine (FI.out _ E3.out).mono ?_
  rintro r w4 ⟨rfl, b4⟩
  have B4 := hide (btr B3.out b4)
  have E4 := hide (heap_below E3.out b4)
  have R4 := hide (heap_below R3.out b4)
  clear b4 B3 E3 R3 FI
  have hNR : N < w4.heap.size := Ba.heap_lt E4.out
  go_wp2_with fail
  go_loopw [20] (fun i wr => ∃ j : Nat, j ≤ 5 ∧ i = .int .i64 j ∧ (∀ q, q < j → oA q = true) ∧ Below w4.heap.size w4 wr) (fun i _ => 5 - (intOf i).toNat)
  case atStart => exact ⟨0, Nat.zero_le _, rfl, fun q hq => absurd hq (Nat.not_lt_zero _), Below.refl _ _⟩
  case round =>
    obtain ⟨j, hj, rfl, hall, b5⟩ := hrel
    have HALL := hide hall
    have B5 := hide b5
    have E5 := hide (heap_below E4.out b5)
    have R5 := hide (heap_below R4.out b5)
    clear hall b5
    have hjj : j = 0 ∨ j = 1 ∨ j = 2 ∨ j = 3 ∨ j = 4 ∨ j = 5 := by omega
    rcases hjj with rfl | rfl | rfl | rfl | rfl | rfl
    · have r0 : wr.cell? ⟨R, 0, none⟩ = some (.int .i64 p0) := cell_of R5.out 0
      have r1 : wr.cell? ⟨R, 1, none⟩ = some (.int .i64 p1) := cell_of R5.out 1
      have hix : ∀ u, (Instr.index 141 (.agg #[.pointer (some ⟨N, 1, none⟩), .pointer (some ⟨N, 2, none⟩), .pointer (some ⟨N, 3, none⟩), .pointer (some ⟨N, 4, none⟩), .pointer (some ⟨N, 5, none⟩)]) (.int .i64 0)).run Tryz.prog u = .ok (.pointer (some ⟨N, 1, none⟩)) u := fun _ => by kernel_rfl
      have x0 : wr.cell? ⟨N, 1, none⟩ = some (.int .i64 g) := cell_of E5.out 1
      have O1 : Hid (oA 0 = inS g p0 p1) := OA.out 0
      generalize hO : oA 0 = ob at O1
      have HO := hide hO
      clear hO
      cases ob
      · obtain rfl := (NO.out 0 (by decide) HO.out)
        obtain rfl := CK.out
        go_wp2_with fail
        go_region_held3 (fun w' => w'.cell? ⟨R, 0, none⟩ = some (.int .i64 p0) ∧ w'.cell? ⟨R, 1, none⟩ = some (.int .i64 p1) ∧ w'.cell? ⟨N, 1, none⟩ = some (.int .i64 g))
          (first
            | (go_split_ands; refine ⟨?_, ?_, ?_⟩ <;> (with_reducible (refine cellB ?_ c6)) <;> with_reducible assumption)
            | go_keep)
          ((go_at_call 100; refine (has_any p0 p1 g _).mono ?_; rw [← O1.out]; rintro r w6 ⟨rfl, c6⟩))
        have B6 := hide (btr B4.out (btr B5.out (btr (bdrew1 _) c6)))
        clear c6
        go_wp2_with fail
        go_ret
        exact ⟨rfl, B6.out⟩
      · skip
        go_wp2_with fail
        go_region_held3 (fun w' => w'.cell? ⟨R, 0, none⟩ = some (.int .i64 p0) ∧ w'.cell? ⟨R, 1, none⟩ = some (.int .i64 p1) ∧ w'.cell? ⟨N, 1, none⟩ = some (.int .i64 g))
          (first
            | (go_split_ands; refine ⟨?_, ?_, ?_⟩ <;> (with_reducible (refine cellB ?_ c6)) <;> with_reducible assumption)
            | go_keep)
          ((go_at_call 100; refine (has_any p0 p1 g _).mono ?_; rw [← O1.out]; rintro r w6 ⟨rfl, c6⟩))
        have B6 := hide (btr B5.out (btr (bdrew1 _) c6))
        clear c6
        go_wp2_with fail
        go_roundw
        case rel => exact ⟨1, by decide, by go_num, fun q hq => by
          by_cases e : q = 0
          · subst e; exact HO.out
          · exact HALL.out q (by omega), B6.out⟩
        case measure => simp [intOf]
    · have r0 : wr.cell? ⟨R, 2, none⟩ = some (.int .i64 p2) := cell_of R5.out 2
      have r1 : wr.cell? ⟨R, 3, none⟩ = some (.int .i64 p3) := cell_of R5.out 3
      have hix : ∀ u, (Instr.index 141 (.agg #[.pointer (some ⟨N, 1, none⟩), .pointer (some ⟨N, 2, none⟩), .pointer (some ⟨N, 3, none⟩), .pointer (some ⟨N, 4, none⟩), .pointer (some ⟨N, 5, none⟩)]) (.int .i64 1)).run Tryz.prog u = .ok (.pointer (some ⟨N, 2, none⟩)) u := fun _ => by kernel_rfl
      have x0 : wr.cell? ⟨N, 2, none⟩ = some (.int .i64 c) := cell_of E5.out 2
      have O1 : Hid (oA 1 = inS c p2 p3) := OA.out 1
      generalize hO : oA 1 = ob at O1
      have HO := hide hO
      clear hO
      cases ob
      · obtain rfl := (NO.out 1 (by decide) HO.out)
        obtain rfl := CK.out
        go_wp2_with fail
        go_region_held3 (fun w' => w'.cell? ⟨R, 2, none⟩ = some (.int .i64 p2) ∧ w'.cell? ⟨R, 3, none⟩ = some (.int .i64 p3) ∧ w'.cell? ⟨N, 2, none⟩ = some (.int .i64 c))
          (first
            | (go_split_ands; refine ⟨?_, ?_, ?_⟩ <;> (with_reducible (refine cellB ?_ c6)) <;> with_reducible assumption)
            | go_keep)
          ((go_at_call 100; refine (has_any p2 p3 c _).mono ?_; rw [← O1.out]; rintro r w6 ⟨rfl, c6⟩))
        have B6 := hide (btr B4.out (btr B5.out (btr (bdrew1 _) c6)))
        clear c6
        go_wp2_with fail
        go_ret
        exact ⟨rfl, B6.out⟩
      · skip
        go_wp2_with fail
        go_region_held3 (fun w' => w'.cell? ⟨R, 2, none⟩ = some (.int .i64 p2) ∧ w'.cell? ⟨R, 3, none⟩ = some (.int .i64 p3) ∧ w'.cell? ⟨N, 2, none⟩ = some (.int .i64 c))
          (first
            | (go_split_ands; refine ⟨?_, ?_, ?_⟩ <;> (with_reducible (refine cellB ?_ c6)) <;> with_reducible assumption)
            | go_keep)
          ((go_at_call 100; refine (has_any p2 p3 c _).mono ?_; rw [← O1.out]; rintro r w6 ⟨rfl, c6⟩))
        have B6 := hide (btr B5.out (btr (bdrew1 _) c6))
        clear c6
        go_wp2_with fail
        go_roundw
        case rel => exact ⟨2, by decide, by go_num, fun q hq => by
          by_cases e : q = 1
          · subst e; exact HO.out
          · exact HALL.out q (by omega), B6.out⟩
        case measure => simp [intOf]
    · have r0 : wr.cell? ⟨R, 4, none⟩ = some (.int .i64 p4) := cell_of R5.out 4
      have r1 : wr.cell? ⟨R, 5, none⟩ = some (.int .i64 p5) := cell_of R5.out 5
      have hix : ∀ u, (Instr.index 141 (.agg #[.pointer (some ⟨N, 1, none⟩), .pointer (some ⟨N, 2, none⟩), .pointer (some ⟨N, 3, none⟩), .pointer (some ⟨N, 4, none⟩), .pointer (some ⟨N, 5, none⟩)]) (.int .i64 2)).run Tryz.prog u = .ok (.pointer (some ⟨N, 3, none⟩)) u := fun _ => by kernel_rfl
      have x0 : wr.cell? ⟨N, 3, none⟩ = some (.int .i64 a) := cell_of E5.out 3
      have O1 : Hid (oA 2 = inS a p4 p5) := OA.out 2
      generalize hO : oA 2 = ob at O1
      have HO := hide hO
      clear hO
      cases ob
      · obtain rfl := (NO.out 2 (by decide) HO.out)
        obtain rfl := CK.out
        go_wp2_with fail
        go_region_held3 (fun w' => w'.cell? ⟨R, 4, none⟩ = some (.int .i64 p4) ∧ w'.cell? ⟨R, 5, none⟩ = some (.int .i64 p5) ∧ w'.cell? ⟨N, 3, none⟩ = some (.int .i64 a))
          (first
            | (go_split_ands; refine ⟨?_, ?_, ?_⟩ <;> (with_reducible (refine cellB ?_ c6)) <;> with_reducible assumption)
            | go_keep)
          ((go_at_call 100; refine (has_any p4 p5 a _).mono ?_; rw [← O1.out]; rintro r w6 ⟨rfl, c6⟩))
        have B6 := hide (btr B4.out (btr B5.out (btr (bdrew1 _) c6)))
        clear c6
        go_wp2_with fail
        go_ret
        exact ⟨rfl, B6.out⟩
      · skip
        go_wp2_with fail
        go_region_held3 (fun w' => w'.cell? ⟨R, 4, none⟩ = some (.int .i64 p4) ∧ w'.cell? ⟨R, 5, none⟩ = some (.int .i64 p5) ∧ w'.cell? ⟨N, 3, none⟩ = some (.int .i64 a))
          (first
            | (go_split_ands; refine ⟨?_, ?_, ?_⟩ <;> (with_reducible (refine cellB ?_ c6)) <;> with_reducible assumption)
            | go_keep)
          ((go_at_call 100; refine (has_any p4 p5 a _).mono ?_; rw [← O1.out]; rintro r w6 ⟨rfl, c6⟩))
        have B6 := hide (btr B5.out (btr (bdrew1 _) c6))
        clear c6
        go_wp2_with fail
        go_roundw
        case rel => exact ⟨3, by decide, by go_num, fun q hq => by
          by_cases e : q = 2
          · subst e; exact HO.out
          · exact HALL.out q (by omega), B6.out⟩
        case measure => simp [intOf]
    · have r0 : wr.cell? ⟨R, 6, none⟩ = some (.int .i64 p6) := cell_of R5.out 6
      have r1 : wr.cell? ⟨R, 7, none⟩ = some (.int .i64 p7) := cell_of R5.out 7
      have hix : ∀ u, (Instr.index 141 (.agg #[.pointer (some ⟨N, 1, none⟩), .pointer (some ⟨N, 2, none⟩), .pointer (some ⟨N, 3, none⟩), .pointer (some ⟨N, 4, none⟩), .pointer (some ⟨N, 5, none⟩)]) (.int .i64 3)).run Tryz.prog u = .ok (.pointer (some ⟨N, 4, none⟩)) u := fun _ => by kernel_rfl
      have x0 : wr.cell? ⟨N, 4, none⟩ = some (.int .i64 v) := cell_of E5.out 4
      have O1 : Hid (oA 3 = inS v p6 p7) := OA.out 3
      generalize hO : oA 3 = ob at O1
      have HO := hide hO
      clear hO
      cases ob
      · obtain rfl := (NO.out 3 (by decide) HO.out)
        obtain rfl := CK.out
        go_wp2_with fail
        go_region_held3 (fun w' => w'.cell? ⟨R, 6, none⟩ = some (.int .i64 p6) ∧ w'.cell? ⟨R, 7, none⟩ = some (.int .i64 p7) ∧ w'.cell? ⟨N, 4, none⟩ = some (.int .i64 v))
          (first
            | (go_split_ands; refine ⟨?_, ?_, ?_⟩ <;> (with_reducible (refine cellB ?_ c6)) <;> with_reducible assumption)
            | go_keep)
          ((go_at_call 100; refine (has_any p6 p7 v _).mono ?_; rw [← O1.out]; rintro r w6 ⟨rfl, c6⟩))
        have B6 := hide (btr B4.out (btr B5.out (btr (bdrew1 _) c6)))
        clear c6
        go_wp2_with fail
        go_ret
        exact ⟨rfl, B6.out⟩
      · skip
        go_wp2_with fail
        go_region_held3 (fun w' => w'.cell? ⟨R, 6, none⟩ = some (.int .i64 p6) ∧ w'.cell? ⟨R, 7, none⟩ = some (.int .i64 p7) ∧ w'.cell? ⟨N, 4, none⟩ = some (.int .i64 v))
          (first
            | (go_split_ands; refine ⟨?_, ?_, ?_⟩ <;> (with_reducible (refine cellB ?_ c6)) <;> with_reducible assumption)
            | go_keep)
          ((go_at_call 100; refine (has_any p6 p7 v _).mono ?_; rw [← O1.out]; rintro r w6 ⟨rfl, c6⟩))
        have B6 := hide (btr B5.out (btr (bdrew1 _) c6))
        clear c6
        go_wp2_with fail
        go_roundw
        case rel => exact ⟨4, by decide, by go_num, fun q hq => by
          by_cases e : q = 3
          · subst e; exact HO.out
          · exact HALL.out q (by omega), B6.out⟩
        case measure => simp [intOf]
    · have r0 : wr.cell? ⟨R, 8, none⟩ = some (.int .i64 p8) := cell_of R5.out 8
      have r1 : wr.cell? ⟨R, 9, none⟩ = some (.int .i64 p9) := cell_of R5.out 9
      have hix : ∀ u, (Instr.index 141 (.agg #[.pointer (some ⟨N, 1, none⟩), .pointer (some ⟨N, 2, none⟩), .pointer (some ⟨N, 3, none⟩), .pointer (some ⟨N, 4, none⟩), .pointer (some ⟨N, 5, none⟩)]) (.int .i64 4)).run Tryz.prog u = .ok (.pointer (some ⟨N, 5, none⟩)) u := fun _ => by kernel_rfl
      have x0 : wr.cell? ⟨N, 5, none⟩ = some (.int .i64 m) := cell_of E5.out 5
      have O1 : Hid (oA 4 = inS m p8 p9) := OA.out 4
      generalize hO : oA 4 = ob at O1
      have HO := hide hO
      clear hO
      cases ob
      · obtain rfl := (NO.out 4 (by decide) HO.out)
        obtain rfl := CK.out
        go_wp2_with fail
        go_region_held3 (fun w' => w'.cell? ⟨R, 8, none⟩ = some (.int .i64 p8) ∧ w'.cell? ⟨R, 9, none⟩ = some (.int .i64 p9) ∧ w'.cell? ⟨N, 5, none⟩ = some (.int .i64 m))
          (first
            | (go_split_ands; refine ⟨?_, ?_, ?_⟩ <;> (with_reducible (refine cellB ?_ c6)) <;> with_reducible assumption)
            | go_keep)
          ((go_at_call 100; refine (has_any p8 p9 m _).mono ?_; rw [← O1.out]; rintro r w6 ⟨rfl, c6⟩))
        have B6 := hide (btr B4.out (btr B5.out (btr (bdrew1 _) c6)))
        clear c6
        go_wp2_with fail
        go_ret
        exact ⟨rfl, B6.out⟩
      · skip
        go_wp2_with fail
        go_region_held3 (fun w' => w'.cell? ⟨R, 8, none⟩ = some (.int .i64 p8) ∧ w'.cell? ⟨R, 9, none⟩ = some (.int .i64 p9) ∧ w'.cell? ⟨N, 5, none⟩ = some (.int .i64 m))
          (first
            | (go_split_ands; refine ⟨?_, ?_, ?_⟩ <;> (with_reducible (refine cellB ?_ c6)) <;> with_reducible assumption)
            | go_keep)
          ((go_at_call 100; refine (has_any p8 p9 m _).mono ?_; rw [← O1.out]; rintro r w6 ⟨rfl, c6⟩))
        have B6 := hide (btr B5.out (btr (bdrew1 _) c6))
        clear c6
        go_wp2_with fail
        go_roundw
        case rel => exact ⟨5, by decide, by go_num, fun q hq => by
          by_cases e : q = 4
          · subst e; exact HO.out
          · exact HALL.out q (by omega), B6.out⟩
        case measure => simp [intOf]
    · obtain rfl := (YES.out HALL.out)
      obtain rfl := CK.out
      go_wp2_with fail
      go_ret
      exact ⟨rfl, btr B4.out B5.out⟩
end En
end Go.Proofs.YtakbbhngcdccpaaGreat
