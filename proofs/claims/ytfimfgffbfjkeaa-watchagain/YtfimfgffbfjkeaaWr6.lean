/- Layer 16's reference, over this seat's program: Tell. -/
import Derived.Test.YtfimfgffbfjkeaaWr5
namespace Go.Proofs.Ytfimfgffbfjkeaa
open Go.ChangeShapes Go.WideShapes Go.ChangeAt Go.RowKit
namespace Wq
open Ck
open Ba (KF Bd Nw)

section
variable {w w' : World} {G : Nat} {st : Qst} {v : Value}
set_option maxRecDepth 100000 in
set_option maxHeartbeats 800000 in
theorem tell_no (s : QX w G st v) (g : Int) (hl : st.L.length ≤ 100000) (h : at_ st.L g = -1) :
    Calls Try.prog 31 #[.pointer (some ⟨G, 0, none⟩), .int .i64 g] w fun r w' => r = .returned (.tuple #[.agg (ra nf), .int .i64 6]) ∧ Below w.heap.size w w' := by
  have bA := below_alloc w (.cells (ra nf) 59)
  have A := hide (at_any (s.below bA) g hl)
  rw [h] at A
  have B0 := hide bA
  have X0 := hide (heap_new w (.cells (ra nf) 59))
  have BD := hide built_ref
  have zr := zero_ref
  have zs := ra_size nf
  clear s h bA
  go_enter Try.func31, Try.ntmps31
  obtain ⟨Z, hZ⟩ : ∃ Z, ra nf = Z := ⟨_, rfl⟩
  rw [hZ] at A B0 X0 BD zr zs
  have HZ := hide hZ
  clear hZ
  go_wp2_with fail
  refine A.out.mono ?_
  rintro r w1 ⟨rfl, b1⟩
  have B1 := hide (btr B0.out b1)
  have X1 := hide (Ba.heap_below X0.out b1)
  have st1 := st_ref nf (show w1.heap[w.heap.size]? = some (.cells (ra nf) 59 (0, 0)) by rw [HZ.out]; exact X1.out) (ra_size nf)
  rw [HZ.out] at st1
  have B2 : Hid (Below w.heap.size w (w1.setRow w.heap.size Z)) := below_setRow B1.out (Nat.le_refl _) _
  have LD := hide (loadVar_ref (show (w1.setRow w.heap.size Z).heap[w.heap.size]? = some (.cells (ra nf) 59 (0, 0)) by rw [HZ.out]; exact setRow_heap _ _ _ _ _ _ X1.out))
  clear b1
  go_wp2_with (refine wpL_build rfl 59 _ rfl [] (by first | kernel_rfl | simp) Z BD.out ?_)
  exact bodyPost_ret (Ba.results_row2 Try.results31 _ _ _ _ _ rfl rfl LD.out) rfl ⟨rfl, B2.out⟩
set_option maxRecDepth 100000 in
set_option maxHeartbeats 800000 in
theorem tell_full (s : QX w G st v) (g : Int) (hl : st.L.length ≤ 100000) (k : Nat) (o : On) (h : at_ st.L g = (k : Int)) (hk : st.L[k]? = some o) (hM : (st.M : Int) ≤ rg o.F (o.t : Int)) :
    Calls Try.prog 31 #[.pointer (some ⟨G, 0, none⟩), .int .i64 g] w fun r w' => r = .returned (.tuple #[.agg (ra nf), .int .i64 5]) ∧ Below w.heap.size w w' := by
  have bA := below_alloc w (.cells (ra nf) 59)
  have A := hide (at_any (s.below bA) g hl)
  rw [h] at A
  have CN := hide (fun u (b : Below w.heap.size w u) => can_yes (s.below b) g hl k o h hk)
  have hd : decide (rg o.F (o.t : Int) < (st.M : Int)) = false := decide_eq_false (by omega)
  rw [hd] at CN
  have B0 := hide bA
  have X0 := hide (heap_new w (.cells (ra nf) 59))
  have BD := hide built_ref
  have zr := zero_ref
  have zs := ra_size nf
  clear s h hk bA hd hM
  go_enter Try.func31, Try.ntmps31
  obtain ⟨Z, hZ⟩ : ∃ Z, ra nf = Z := ⟨_, rfl⟩
  rw [hZ] at A B0 X0 BD zr zs
  have HZ := hide hZ
  clear hZ
  go_wp2_with fail
  refine A.out.mono ?_
  rintro r w0 ⟨rfl, b0⟩
  have B0b := hide (btr B0.out b0)
  have X0b := hide (Ba.heap_below X0.out b0)
  clear b0
  go_wp2_with fail
  refine (CN.out _ B0b.out).mono ?_
  rintro r w1 ⟨rfl, b1⟩
  have B1 := hide (btr B0b.out b1)
  have X1 := hide (Ba.heap_below X0b.out b1)
  have st1 := st_ref nf (show w1.heap[w.heap.size]? = some (.cells (ra nf) 59 (0, 0)) by rw [HZ.out]; exact X1.out) (ra_size nf)
  rw [HZ.out] at st1
  have B2 : Hid (Below w.heap.size w (w1.setRow w.heap.size Z)) := below_setRow B1.out (Nat.le_refl _) _
  have LD := hide (loadVar_ref (show (w1.setRow w.heap.size Z).heap[w.heap.size]? = some (.cells (ra nf) 59 (0, 0)) by rw [HZ.out]; exact setRow_heap _ _ _ _ _ _ X1.out))
  clear b1
  go_wp2_with (refine wpL_build rfl 59 _ rfl [] (by first | kernel_rfl | simp) Z BD.out ?_)
  exact bodyPost_ret (Ba.results_row2 Try.results31 _ _ _ _ _ rfl rfl LD.out) rfl ⟨rfl, B2.out⟩
set_option maxRecDepth 100000 in
set_option maxHeartbeats 3200000 in
theorem tell_ok (s : QX w G st v) (g : Int) (hl : st.L.length ≤ 100000) (k : Nat) (o : On) (h : at_ st.L g = (k : Int)) (hk : st.L[k]? = some o) (ht : o.t < 256) (h0 : 0 ≤ o.F o.t) (hM : o.F o.t < (st.M : Int)) (hMm : st.M ≤ 1048576) :
    Calls Try.prog 31 #[.pointer (some ⟨G, 0, none⟩), .int .i64 g] w fun r w' => r = .returned (.tuple #[.agg (ra o.F), .int .i64 0]) ∧ QX w' G { st with L := st.L.set k ⟨o.g, o.t, upF o.F o.t (o.F o.t + 1)⟩ } v ∧ KF (fun x => v.ownBlock = some x) w w' := by
  obtain ⟨oa, c, rfl⟩ := own_sl s.ow
  have hkl : k < st.L.length := (List.getElem?_eq_some_iff.1 hk).1
  obtain ⟨b, rfl, ro⟩ := row_ro s.ow hk
  have bA := below_alloc w (.cells (ra nf) 59)
  have A := hide (at_any (s.below bA) g hl)
  rw [h] at A
  have CN := hide (fun u (b : Below w.heap.size w u) => can_yes (s.below b) g hl k o h hk)
  have hrg : rg o.F (o.t : Int) = o.F o.t := by unfold rg; rw [if_pos (by omega)]; rfl
  have hd : decide (rg o.F (o.t : Int) < (st.M : Int)) = true := decide_eq_true (by rw [hrg]; exact hM)
  rw [hd] at CN
  have B0 := hide bA
  have X0 := hide (heap_new w (.cells (ra nf) 59))
  have HS := hide s
  have RO := hide ro
  have HK := hide hk
  have hbb : b < w.heap.size := World.block_lt_of_cell? w _ ro.g
  have TI := hide (And.intro ht (And.intro h0 (And.intro hM hMm)))
  obtain ⟨n, hn⟩ : ∃ n, st.L.length = n := ⟨_, rfl⟩
  have HN := hide hn
  have CE := hide (fun u (b : Below w.heap.size w u) => (s.below b).cells)
  rw [hn] at CE hkl hl ⊢
  have hkl' : (k : Int) < (n : Int) := by omega
  have hlt := s.lt
  have zr := zero_ref
  have zs := ra_size nf
  have vs_ := ra_size o.F
  clear s h hk ro hn bA hd hrg ht h0 hM hMm
  go_enter Try.func31, Try.ntmps31
  obtain ⟨Z, hZ⟩ : ∃ Z, ra nf = Z := ⟨_, rfl⟩
  rw [hZ] at A B0 X0 zr zs
  have HZ := hide hZ
  clear hZ
  go_wp2_with fail
  refine A.out.mono ?_
  rintro r w0 ⟨rfl, b0⟩
  have B0b := hide (btr B0.out b0)
  have X0b := hide (Ba.heap_below X0.out b0)
  clear b0
  go_wp2_with fail
  refine (CN.out _ B0b.out).mono ?_
  rintro r w1 ⟨rfl, b1⟩
  have B1 := hide (btr B0b.out b1)
  have X1 := hide (Ba.heap_below X0b.out b1)
  obtain ⟨-, y1, y2⟩ := CE.out w1 B1.out
  have hG1 : G < w1.heap.size := Nat.lt_of_lt_of_le hlt B1.out.size
  have hw1 : w.heap.size < w1.heap.size := Ba.heap_lt X1.out
  have LD := hide (ldv_ref (RO.out.below B1.out).F)
  have st1 := st_ref o.F (heap_new w1 (.cells (ra nf) 59)) (ra_size nf)
  rw [setRow_new, HZ.out] at st1
  have LD2 := hide (ldv_ref (RA.of (heap_new w1 (.cells (ra o.F) 59))))
  have st2 := st_ref o.F (heap_new (w1.alloc (.cells (ra o.F) 59)) (.cells (ra nf) 59)) (ra_size nf)
  rw [setRow_new, HZ.out] at st2
  have bB := btr (below_alloc w1 (.cells (ra o.F) 59)) (below_alloc (w1.alloc (.cells (ra o.F) 59)) (.cells (ra o.F) 59))
  have B3 := hide (btr B1.out bB)
  have X3 := hide (Ba.heap_below X1.out bB)
  have Y3 := hide (Ba.heap_below (heap_new w1 (.cells (ra o.F) 59)) (below_alloc (w1.alloc (.cells (ra o.F) 59)) (.cells (ra o.F) 59)))
  have Z3 := hide (heap_new (w1.alloc (.cells (ra o.F) 59)) (.cells (ra o.F) 59))
  rw [World.size_alloc] at Z3 st2
  have hsz3 : Hid (((w1.alloc (.cells (ra o.F) 59)).alloc (.cells (ra o.F) 59)).heap.size = w1.heap.size + 1 + 1) := by show _ = _; rw [World.size_alloc, World.size_alloc]
  have hsz2 := World.size_alloc w1 (.cells (ra o.F) 59)
  clear b1 bB y2
  obtain ⟨V, hV⟩ : ∃ V, ra o.F = V := ⟨_, rfl⟩
  rw [hV] at LD st1 LD2 st2 B3 X3 Y3 Z3 hsz3 hsz2 vs_
  have HV := hide hV
  clear hV
  have y2 := (CE.out w1 B1.out).2.2
  go_upto_region 8 with (first | refine wpL_load rfl 59 _ rfl _ _ rfl LD.out ?_ | refine wpL_load rfl 59 _ rfl _ _ rfl LD2.out ?_)
  clear st1 st2 zr zs LD LD2 y1 y2 hsz2
  generalize (w1.alloc (.cells V 59)).alloc (.cells V 59) = w3 at *
  obtain ⟨B8, hB8⟩ : ∃ B8, w1.heap.size + 1 = B8 := ⟨_, rfl⟩
  rw [hB8] at Z3 hsz3 ⊢
  have hbB : b ≠ B8 := by omega
  have hGB : G ≠ B8 := by omega
  have h7B : w1.heap.size ≠ B8 := by omega
  have h4B : w.heap.size ≠ B8 := by omega
  have HB8 := hide hB8
  clear hB8
  have Q3 : Hid (QX w3 G st (.slice (some ⟨b, 0, none⟩) n c)) := by
    have hh := HS.out
    rw [HN.out] at hh
    exact hh.below B3.out
  have RO3 := hide (RO.out.below B3.out)
  have y1 : w3.cell? ⟨G, 1, none⟩ = some (.int .i64 (st.M : Int)) := Q3.out.cells.2.1
  have y2 : w3.cell? ⟨G, 2, none⟩ = some (.slice (some ⟨b, 0, none⟩) n c) := Q3.out.cells.2.2
  have t1 := RO3.out.t
  have hG3 : G < w3.heap.size := Q3.out.lt
  have RA3 : Hid (RA w3.drew B8 0 o.F) := RA.of (show w3.drew.heap[B8]? = some (.cells (ra o.F) 59 (0, 0)) by rw [HV.out]; exact Z3.out)
  have TK := hide (rtick_ok B8 0 o.F o.t (st.M : Int) w3.drew RA3.out TI.out.1 ((okM_iff _).2 ⟨by have := TI.out.2; omega, by have := TI.out.2.2.2; omega⟩) TI.out.2.1 TI.out.2.2.1)
  obtain ⟨w4, hw4⟩ : ∃ w4, (w3.drew.setCell ⟨B8, 0 + o.t, none⟩ (.int .i64 (o.F o.t + 1))).drew = w4 := ⟨_, rfl⟩
  have BK4 : Hid (∀ x, x ≠ B8 → w4.heap[x]? = w3.heap[x]?) := fun x hx => by rw [← hw4]; exact Below.heap_setCell _ _ _ _ hx
  have X8 : Hid (w4.heap[B8]? = some (.cells (ra (upF o.F o.t (o.F o.t + 1))) 59 (0, 0))) := by
    show _ = _
    rw [← hw4]
    show (w3.setCell ⟨B8, 0 + o.t, none⟩ (.int .i64 (o.F o.t + 1))).heap[B8]? = _
    rw [Ba.heap_setCell_same Z3.out, ← HV.out, ra_set o.F (upF o.F o.t (o.F o.t + 1)) (0 + o.t) _ (by have := TI.out.1; omega) (fun j => by rw [Nat.zero_add]; rfl)]
  have OT4 : Hid (w4.os = w3.os ∧ w4.tape = w3.tape ∧ w4.output = w3.output ∧ w4.heap.size = w3.heap.size) := by
    rw [← hw4]
    exact ⟨rfl, rfl, rfl, by show (World.setCell _ _ _).heap.size = _; simp [World.setCell]⟩
  rw [hw4] at TK
  clear hw4 RA3
  obtain ⟨tz, htz⟩ : ∃ tz : Int, (o.t : Int) = tz := ⟨_, rfl⟩
  rw [htz] at TK t1
  clear htz
  have K8 : Hid (w4.cell? ⟨G, 2, none⟩ = some (.slice (some ⟨b, 0, none⟩) n c) ∧ w4.cell? ⟨b, k * 258 + 1, none⟩ = some (.int .i64 tz) ∧ w4.cell? ⟨G, 1, none⟩ = some (.int .i64 (st.M : Int))) := ⟨(World.cell?_of_block (w := w3) (a := ⟨G, 2, none⟩) (BK4.out G hGB)).trans y2, (World.cell?_of_block (w := w3) (a := ⟨b, k * 258 + 1, none⟩) (BK4.out b hbB)).trans t1, (World.cell?_of_block (w := w3) (a := ⟨G, 1, none⟩) (BK4.out G hGB)).trans y1⟩
  try simp only [List.append_eq, List.cons_append, List.nil_append]
  refine wp_region_held_drew (S := (fun w' => w'.cell? ⟨G, 2, none⟩ = some (.slice (some ⟨b, 0, none⟩) n c) ∧ w'.cell? ⟨b, k * 258 + 1, none⟩ = some (.int .i64 tz) ∧ w'.cell? ⟨G, 1, none⟩ = some (.int .i64 (st.M : Int)))) (by kernel_rfl) ?_ (fun hHeld => ?_)
  · exact ⟨y2, t1, y1⟩
  refine wpAnyH_take (i := 0) (v := ?_) rfl (by kernel_rfl) (by kernel_rfl) (by kernel_rfl) (fun _ _ _ h => h) (Or.inl ⟨by rfl, ?_⟩) (by assumption) ?_
  rotate_left
  · intro w0 hSw; (try dsimp only at hSw); go_simp <;> with_reducible rfl
  try simp only [Act.put, List.getElem_toArray, List.getElem_cons_zero, List.setIfInBounds_toArray, List.set_cons_zero, List.set_cons_succ]
  refine wpAnyH_take (i := 1) (v := ?_) rfl (by kernel_rfl) (by kernel_rfl) (by kernel_rfl) (fun _ _ _ h => h) (Or.inl ⟨by rfl, ?_⟩) (by assumption) ?_
  rotate_left
  · intro w0 hSw; (try dsimp only at hSw); go_simp <;> with_reducible rfl
  try simp only [Act.put, List.getElem_toArray, List.getElem_cons_zero, List.getElem_cons_succ, List.setIfInBounds_toArray, List.set_cons_zero, List.set_cons_succ]
  refine wpAnyH_take (i := 2) (v := ?_) rfl (by kernel_rfl) (by kernel_rfl) (by kernel_rfl) (fun _ _ _ h => h) (Or.inl ⟨by rfl, ?_⟩) (by assumption) ?_
  rotate_left
  · intro w0 hSw; (try dsimp only at hSw); go_simp <;> with_reducible rfl
  try simp only [Act.put, List.getElem_toArray, List.getElem_cons_zero, List.getElem_cons_succ, List.setIfInBounds_toArray, List.set_cons_zero, List.set_cons_succ]
  refine wpAnyH_take (i := 3) (v := ?_) rfl (by kernel_rfl) (by kernel_rfl) (by kernel_rfl) (fun _ _ _ h => h) (Or.inl ⟨by rfl, ?_⟩) (by assumption) ?_
  rotate_left
  · intro w0 hSw; (try dsimp only at hSw); go_simp <;> with_reducible rfl
  try simp only [Act.put, List.getElem_toArray, List.getElem_cons_zero, List.getElem_cons_succ, List.setIfInBounds_toArray, List.set_cons_zero, List.set_cons_succ]
  refine wpAnyH_take (i := 4) (v := ?_) rfl (by kernel_rfl) (by kernel_rfl) (by kernel_rfl) (fun _ _ _ h => h) (Or.inl ⟨by rfl, ?_⟩) (by assumption) ?_
  rotate_left
  · intro w0 hSw; (try dsimp only at hSw); go_simp <;> with_reducible rfl
  try simp only [Act.put, List.getElem_toArray, List.getElem_cons_zero, List.getElem_cons_succ, List.setIfInBounds_toArray, List.set_cons_zero, List.set_cons_succ]
  refine wpAnyH_take (i := 5) (v := ?_) rfl (by kernel_rfl) (by kernel_rfl) (by kernel_rfl) (fun _ _ _ h => h) (Or.inl ⟨by rfl, ?_⟩) (by assumption) ?_
  rotate_left
  · intro w0 hSw; (try dsimp only at hSw); go_simp <;> with_reducible rfl
  try simp only [Act.put, List.getElem_toArray, List.getElem_cons_zero, List.getElem_cons_succ, List.setIfInBounds_toArray, List.set_cons_zero, List.set_cons_succ]
  refine wpAnyH_take (i := 6) (v := ?_) rfl (by kernel_rfl) (by kernel_rfl) (by kernel_rfl) (fun _ _ _ h => h) (Or.inl ⟨by rfl, ?_⟩) (by assumption) ?_
  rotate_left
  · intro w0 hSw; (try dsimp only at hSw); go_simp <;> with_reducible rfl
  try simp only [Act.put, List.getElem_toArray, List.getElem_cons_zero, List.getElem_cons_succ, List.setIfInBounds_toArray, List.set_cons_zero, List.set_cons_succ]
  refine wpAnyH_take (i := 7) (v := ?_) rfl (by kernel_rfl) (by kernel_rfl) (by kernel_rfl) (fun _ _ _ h => h) (Or.inl ⟨by rfl, ?_⟩) (by assumption) ?_
  rotate_left
  · intro w0 hSw; (try dsimp only at hSw); go_simp <;> with_reducible rfl
  try simp only [Act.put, List.getElem_toArray, List.getElem_cons_zero, List.getElem_cons_succ, List.setIfInBounds_toArray, List.set_cons_zero, List.set_cons_succ]
  refine wpAnyH_take (i := 8) (v := ?_) rfl (by kernel_rfl) (by kernel_rfl) (by kernel_rfl) (fun _ _ _ h => h) (Or.inl ⟨by rfl, ?_⟩) (by assumption) ?_
  rotate_left
  · intro w0 hSw; (try dsimp only at hSw); go_simp <;> with_reducible rfl
  try simp only [Act.put, List.getElem_toArray, List.getElem_cons_zero, List.getElem_cons_succ, List.setIfInBounds_toArray, List.set_cons_zero, List.set_cons_succ]
  refine wpAnyH_take (i := 9) (v := ?_) rfl (by kernel_rfl) (by kernel_rfl) (by kernel_rfl) (fun _ _ _ h => h) (Or.inl ⟨by rfl, ?_⟩) (by assumption) ?_
  rotate_left
  · intro w0 hSw; (try dsimp only at hSw); go_simp <;> with_reducible rfl
  try simp only [Act.put, List.getElem_toArray, List.getElem_cons_zero, List.getElem_cons_succ, List.setIfInBounds_toArray, List.set_cons_zero, List.set_cons_succ]
  refine wpAnyH_take (i := 10) (v := ?_) rfl (by kernel_rfl) (by kernel_rfl) (by kernel_rfl) (fun _ _ _ h => h) (Or.inl ⟨by rfl, ?_⟩) (by assumption) ?_
  rotate_left
  · intro w0 hSw; (try dsimp only at hSw); go_simp <;> with_reducible rfl
  try simp only [Act.put, List.getElem_toArray, List.getElem_cons_zero, List.getElem_cons_succ, List.setIfInBounds_toArray, List.set_cons_zero, List.set_cons_succ]
  refine wpAnyH_take (i := 11) (v := ?_) rfl (by kernel_rfl) (by kernel_rfl) (by kernel_rfl) (fun _ _ _ h => h) (Or.inl ⟨by rfl, ?_⟩) (by assumption) ?_
  rotate_left
  · intro w0 hSw; (try dsimp only at hSw); go_simp <;> with_reducible rfl
  try simp only [Act.put, List.getElem_toArray, List.getElem_cons_zero, List.getElem_cons_succ, List.setIfInBounds_toArray, List.set_cons_zero, List.set_cons_succ]
  refine wpAnyH_ready (rs := [12]) (by kernel_rfl) (by simp) ?_
  refine AllReadyH.cons rfl (fun K hK => ?_) AllReadyH.nil
  go_simp
  (go_at_call 52; refine TK.out.mono ?_; rintro r v1 ⟨rfl, e1⟩; obtain rfl := e1.symm)
  (try go_wp2_with fail)
  refine hK.out _ _ ?_ (fun hHeld => ?_)
  · exact K8.out
  clear hK K
  try simp only [Act.put, List.getElem_toArray, List.getElem_cons_zero, List.getElem_cons_succ, List.setIfInBounds_toArray, List.set_cons_zero, List.set_cons_succ]
  refine wpAnyH_done (by kernel_rfl) ?_ _
  clear K8 TK y1 y2 t1
  -- behind the Tick
  have Q4 : Hid (QX w4 G st (.slice (some ⟨b, 0, none⟩) n c)) := Q3.out.blk fun x hx => BK4.out x (by
    have := Q3.out.rlt x hx
    rcases hx with rfl | e
    · exact hGB
    · simp only [Value.ownBlock, Option.some.injEq] at e; omega)
  have y2 : w4.drew.cell? ⟨G, 2, none⟩ = some (.slice (some ⟨b, 0, none⟩) n c) := Q4.out.cells.2.2
  have hG4 : G < w4.drew.heap.size := Q4.out.lt
  obtain ⟨F', hF'⟩ : ∃ F', upF o.F o.t (o.F o.t + 1) = F' := ⟨_, rfl⟩
  have HF' := hide hF'
  rw [hF'] at X8
  clear hF'
  have RA4 : Hid (RA w4.drew B8 0 F') := RA.of (show w4.drew.heap[B8]? = _ from X8.out)
  have RO4 : Hid (Wq.RO w4.drew b (k * 258) o) := by
    have q := Q4.out.ow
    rw [← HN.out] at q
    obtain ⟨b', e', r'⟩ := row_ro (n := st.L.length) (c := c) (by rw [HN.out] at q ⊢; exact q) HK.out
    cases e'
    exact r'
  obtain ⟨LC, hLC⟩ : ∃ LC : Nat → Sem (Array Value), ∀ n, loadCellsFrom (⟨B8, 0, none⟩ : Addr) 0 n #[] = LC n := ⟨fun n => loadCellsFrom (⟨B8, 0, none⟩ : Addr) 0 n #[], fun _ => rfl⟩
  obtain ⟨VJ, hVJ⟩ : ∃ VJ, ra F' = VJ := ⟨_, rfl⟩
  have LD4 : (LC 256).run Try.prog w4.drew = .ok VJ w4.drew := by rw [← hLC, ← hVJ]; exact ld_ref RA4.out
  have STO := hide (stv_ra F' RO4.out.F)
  have Q6 : Hid (QX (w4.drew.setCells b (k * 258 + 2) (ra F').toList) G { st with L := st.L.set k ⟨o.g, o.t, F'⟩ } (.slice (some ⟨b, 0, none⟩) n c)) := QX.setF (Q4.out.below (Ba.bdrew1 w4)) HN.out HK.out _
  have hbG : G ≠ b := fun e => HS.out.ne (by rw [e]; rfl)
  have hb1 : B8 ≠ b := fun e => hbB e.symm
  have KP6 : Hid ((w4.drew.setCells b (k * 258 + 2) (ra F').toList).cell? ⟨G, 2, none⟩ = some (.slice (some ⟨b, 0, none⟩) n c) ∧ (LC 256).run Try.prog ((w4.drew.setCells b (k * 258 + 2) (ra F').toList)) = .ok (ra F') ((w4.drew.setCells b (k * 258 + 2) (ra F').toList))) := ⟨(World.cell?_of_block (w := w4.drew) (a := ⟨G, 2, none⟩) (heap_cells b _ _ _ G hbG)).trans y2, by rw [← hLC]; exact ld_ref (ra_blk RA4.out (heap_cells b _ _ _ _ hb1))⟩
  have h7b : w1.heap.size ≠ b := by omega
  have h4b : w.heap.size ≠ b := by omega
  have Y6 : Hid ((w4.drew.setCells b (k * 258 + 2) (ra F').toList).heap[w1.heap.size]? = some (.cells V 59 (0, 0))) := (heap_cells b _ _ _ _ h7b).trans ((BK4.out _ h7B).trans Y3.out)
  have X6 : Hid ((w4.drew.setCells b (k * 258 + 2) (ra F').toList).heap[w.heap.size]? = some (.cells Z 59 (0, 0))) := (heap_cells b _ _ _ _ h4b).trans ((BK4.out _ h4B).trans X3.out)
  have hB8w : w.heap.size < B8 := by have := HB8.out; omega
  have K4 : KF (fun x => (Value.slice (some ⟨b, 0, none⟩) n c).ownBlock = some x) w w4.drew := ⟨OT4.out.1.trans B3.out.os, OT4.out.2.1.trans B3.out.tape, OT4.out.2.2.1.trans B3.out.output, by show _ ≤ w4.heap.size; rw [OT4.out.2.2.2]; exact B3.out.size, fun x hx _ => (BK4.out x (by omega)).trans (B3.out.block x hx)⟩
  have K6 : Hid (KF (fun x => (Value.slice (some ⟨b, 0, none⟩) n c).ownBlock = some x) w (w4.drew.setCells b (k * 258 + 2) (ra F').toList)) := kf_setCells K4 rfl _ _
  clear K4
  rw [hVJ] at STO Q6 KP6 Y6 X6 K6
  clear hVJ Q3 RO3 RA4 RO4 BK4 X8 OT4
  go_upto_region 9 with fail
  try simp only [List.append_eq, List.cons_append, List.nil_append]
  refine wp_region_held_drew (S := (fun w' => w'.cell? ⟨G, 2, none⟩ = some (.slice (some ⟨b, 0, none⟩) n c) ∧ (LC 256).run Try.prog (w') = .ok VJ (w'))) (by kernel_rfl) ?_ (fun hHeld => ?_)
  · exact ⟨y2, LD4⟩
  refine wpAnyH_take (i := 0) (v := ?_) rfl (by kernel_rfl) (by kernel_rfl) (by kernel_rfl) (fun _ _ _ h => h) (Or.inl ⟨by rfl, ?_⟩) (by assumption) ?_
  rotate_left
  · intro w0 hSw; (try dsimp only at hSw); go_simp <;> with_reducible rfl
  try simp only [Act.put, List.getElem_toArray, List.getElem_cons_zero, List.setIfInBounds_toArray, List.set_cons_zero, List.set_cons_succ]
  refine wpAnyH_take (i := 1) (v := ?_) rfl (by kernel_rfl) (by kernel_rfl) (by kernel_rfl) (fun _ _ _ h => h) (Or.inl ⟨by rfl, ?_⟩) (by assumption) ?_
  rotate_left
  · intro w0 hSw; (try dsimp only at hSw); go_simp <;> with_reducible rfl
  try simp only [Act.put, List.getElem_toArray, List.getElem_cons_zero, List.getElem_cons_succ, List.setIfInBounds_toArray, List.set_cons_zero, List.set_cons_succ]
  refine wpAnyH_take (i := 2) (v := ?_) rfl (by kernel_rfl) (by kernel_rfl) (by kernel_rfl) (fun _ _ _ h => h) (Or.inl ⟨by rfl, ?_⟩) (by assumption) ?_
  rotate_left
  · intro w0 hSw; (try dsimp only at hSw); go_simp <;> with_reducible rfl
  try simp only [Act.put, List.getElem_toArray, List.getElem_cons_zero, List.getElem_cons_succ, List.setIfInBounds_toArray, List.set_cons_zero, List.set_cons_succ]
  refine wpAnyH_take (i := 3) (v := ?_) rfl (by kernel_rfl) (by kernel_rfl) (by kernel_rfl) (fun _ _ _ h => h) (Or.inl ⟨by rfl, ?_⟩) (by assumption) ?_
  rotate_left
  · intro w0 hSw; (try dsimp only at hSw); go_simp <;> with_reducible rfl
  try simp only [Act.put, List.getElem_toArray, List.getElem_cons_zero, List.getElem_cons_succ, List.setIfInBounds_toArray, List.set_cons_zero, List.set_cons_succ]
  refine wpAnyH_take (i := 4) (v := ?_) rfl (by kernel_rfl) (by kernel_rfl) (by kernel_rfl) (fun _ _ _ h => h) (Or.inl ⟨by rfl, ?_⟩) (by assumption) ?_
  rotate_left
  · intro w0 hSw; (try dsimp only at hSw); go_simp <;> with_reducible rfl
  try simp only [Act.put, List.getElem_toArray, List.getElem_cons_zero, List.getElem_cons_succ, List.setIfInBounds_toArray, List.set_cons_zero, List.set_cons_succ]
  refine wpAnyH_take (i := 5) (v := ?_) rfl (by kernel_rfl) (by kernel_rfl) (by kernel_rfl) (fun _ _ _ h => h) (Or.inl ⟨by rfl, ?_⟩) (by assumption) ?_
  rotate_left
  · intro w0 hSw; (try dsimp only at hSw); go_simp <;> with_reducible rfl
  try simp only [Act.put, List.getElem_toArray, List.getElem_cons_zero, List.getElem_cons_succ, List.setIfInBounds_toArray, List.set_cons_zero, List.set_cons_succ]
  refine wpAnyH_take (i := 6) (v := ?_) rfl (by kernel_rfl) (by kernel_rfl) (by kernel_rfl) (fun _ _ _ h => h) (Or.inl ⟨by rfl, ?_⟩) (by assumption) ?_
  rotate_left
  · intro w0 hSw; (try dsimp only at hSw); go_simp <;> with_reducible rfl
  try simp only [Act.put, List.getElem_toArray, List.getElem_cons_zero, List.getElem_cons_succ, List.setIfInBounds_toArray, List.set_cons_zero, List.set_cons_succ]
  refine wpAnyH_take (i := 7) (v := ?_) rfl (by kernel_rfl) (by kernel_rfl) (by kernel_rfl) (fun _ _ _ h => h) (Or.inl ⟨by rfl, ?_⟩) (by assumption) ?_
  rotate_left
  · intro w0 hSw; (try dsimp only at hSw); go_simp <;> with_reducible rfl
  try simp only [Act.put, List.getElem_toArray, List.getElem_cons_zero, List.getElem_cons_succ, List.setIfInBounds_toArray, List.set_cons_zero, List.set_cons_succ]
  refine wpAnyH_ready (rs := [8]) (by kernel_rfl) (by simp) ?_
  refine AllReadyH.cons rfl (fun K hK => ?_) AllReadyH.nil
  refine step_store (by rfl) 59 _ _ (by rfl) ⟨b, k * 258 + 2, none⟩ (.agg VJ) _ (by rfl) (by rfl) STO.out ?_
  refine hK.out _ _ ?_ (fun hHeld => ?_)
  · exact KP6.out
  clear hK K
  try simp only [Act.put, List.getElem_toArray, List.getElem_cons_zero, List.getElem_cons_succ]
  refine wpAnyH_done (by kernel_rfl) ?_ _
  clear KP6 STO LD4 hLC y2
  generalize w4.drew.setCells b (k * 258 + 2) VJ.toList = w6 at *
  have LD6 := hide (ldv_ref (RA.of (show w6.heap[w1.heap.size]? = some (.cells (ra o.F) 59 (0, 0)) by rw [HV.out]; exact Y6.out)))
  have st6 := st_ref o.F X6.out (by rw [← HZ.out]; exact ra_size nf)
  have LDF := hide (loadVar_ref (show (w6.setRow w.heap.size (ra o.F)).heap[w.heap.size]? = some (.cells (ra o.F) 59 (0, 0)) from setRow_heap _ _ _ _ _ _ X6.out))
  have QF : Hid (QX (w6.setRow w.heap.size (ra o.F)) G { st with L := st.L.set k ⟨o.g, o.t, upF o.F o.t (o.F o.t + 1)⟩ } (.slice (some ⟨b, 0, none⟩) n c)) := by
    rw [HF'.out]
    exact Q6.out.blk fun x hx => setRow_other _ _ _ _ (by
      rcases hx with rfl | e
      · omega
      · simp only [Value.ownBlock, Option.some.injEq] at e; omega)
  have KF9 : Hid (KF (fun x => (Value.slice (some ⟨b, 0, none⟩) n c).ownBlock = some x) w (w6.setRow w.heap.size (ra o.F))) := ⟨K6.out.os, K6.out.tape, K6.out.output, by have := K6.out.size; simpa using this, fun x hx hr => (setRow_other _ _ _ _ (by omega)).trans (K6.out.block x hx hr)⟩
  rw [HV.out] at LD6 st6 LDF QF KF9
  have hX6 : w.heap.size < w6.heap.size := Ba.heap_lt X6.out
  go_wp2_with (refine wpL_load rfl 59 _ rfl _ _ rfl LD6.out ?_)
  exact bodyPost_ret (Ba.results_row2 Try.results31 _ _ _ _ _ rfl rfl LDF.out) rfl ⟨by rw [HV.out]; rfl, QF.out, KF9.out⟩
end
end Wq
end Go.Proofs.Ytfimfgffbfjkeaa
