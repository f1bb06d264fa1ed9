/- Package entry: Decode where all numbers are there, over this seat's program. -/
import Derived.Test.YtlcaelfkgillmaaNx
import Derived.Deep.RegionHeld3
namespace Go.Proofs.Ytlcaelfkgillmaa
open Go.ChangeShapes Go.WideShapes Go.ChangeAt Go.RowKit
namespace En
open Ba Re

theorem fg_evn (t0 t1 t2 t3 t4 t5 : Int) (n : Nat) : fg (evn t0 t1 t2 t3 t4 t5 n) = ((n % 4 : Nat) : Int) := by
  unfold fg evn
  simp only [beq_iff_eq]
  split <;> split <;> omega
set_option maxRecDepth 100000 in
set_option maxHeartbeats 6400000 in
theorem decA (s : ByteArray) (w : World) (t0 t1 t2 t3 t4 t5 : Int) (n z : Nat) (b1 b2 : Bool) (ck : Int) (h : tst (nbs s) 7 = some ([t0, t1, t2, t3, t4, t5, (n : Int)], z)) (hb1 : (n % 2 == 1) = b1) (hb2 : (n / 2 % 2 == 1) = b2) (hck : chk (evn t0 t1 t2 t3 t4 t5 n) = ck) (hn : n ≤ 3) (h0k : ck = 0) :
    Calls Try.prog 14 #[.string s] w fun r w' => r = .returned (.tuple #[.agg #[.int .i64 t0, .int .i64 (t1 - 1), .int .i64 (t2 - 1), .int .i64 (t3 - 1), .int .i64 (t4 - 1), .int .i64 (t5 - 1), .bool b1, .bool b2], .string (s.extract z s.size), .int .i64 0]) ∧ Below w.heap.size w w' := by
  have bd := tst_bd h
  have h0 := bd t0 (by simp)
  have h1 := bd t1 (by simp)
  have h2 := bd t2 (by simp)
  have h3 := bd t3 (by simp)
  have h4 := bd t4 (by simp)
  have h5 := bd t5 (by simp)
  have h6 := bd (n : Int) (by simp)
  have EVT := hide fun u => event_any t0 t1 t2 t3 t4 t5 n u (by omega) h1 h2 h3 h4 h5
  have NUM := hide fun u => numbers_any (evn t0 t1 t2 t3 t4 t5 n) u (fun x hx => by
    simp [fl, evn] at hx
    rcases hx with rfl | rfl | rfl | rfl | rfl <;> omega)
  have CHK := hide fun u => check_any (evn t0 t1 t2 t3 t4 t5 n) u
  have HEV : Hid (evv (evn t0 t1 t2 t3 t4 t5 n) = .agg #[.int .i64 t0, .int .i64 (t1 - 1), .int .i64 (t2 - 1), .int .i64 (t3 - 1), .int .i64 (t4 - 1), .int .i64 (t5 - 1), .bool (n % 2 == 1), .bool (n / 2 % 2 == 1)]) := rfl
  have HFG : Hid (fg (evn t0 t1 t2 t3 t4 t5 n) = ((n % 4 : Nat) : Int)) := fg_evn t0 t1 t2 t3 t4 t5 n
  have HNM : Hid (nm (evn t0 t1 t2 t3 t4 t5 n) = [t0, t1, t2, t3, t4, t5, fg (evn t0 t1 t2 t3 t4 t5 n)]) := by show _ = _; simp [nm, evn]
  rw [HNM.out, HFG.out] at NUM
  rw [HEV.out, hb1, hb2] at NUM CHK EVT
  rw [hck] at CHK
  simp only [row, List.map_cons, List.map_nil] at NUM EVT
  clear HEV HFG HNM hb1 hb2 hck
  rw [show n % 4 = n by omega] at NUM
  have heq := fun u => eq7 t0 t1 t2 t3 t4 t5 (n : Int) (n : Int) u true (by simp)
  subst h0k
  have S1 := hide (DeW.start w)
  have HT := hide h
  clear h bd
  have HZ := hide (sfx_zero s)
  simp only [evc, row, List.map_cons, List.map_nil, e0] at S1
  go_enter Try.func14, Try.ntmps14
  go_wp2_with fail
  generalize (w.alloc (.cells #[.int .i64 0, .int .i64 0, .int .i64 0, .int .i64 0, .int .i64 0, .int .i64 0, .bool false, .bool false] 23)).alloc (.cells #[.int .i64 0, .int .i64 0, .int .i64 0, .int .i64 0, .int .i64 0, .int .i64 0, .int .i64 0] 57) = W at S1 ⊢
  generalize hN : w.heap.size = N at S1 ⊢
  have HN := hide hN
  clear hN
  go_loopw [0, 11] (fun sv i wr => ∃ (j : Nat) (xs : List Int) (z : Nat), j ≤ 7 ∧ sv = .string (s.extract z s.size) ∧ i = .int .i64 j ∧ tst (nbs s) j = some (xs, z) ∧ DeW w wr N (xs ++ List.replicate (7 - j) 0)) (fun _ i _ => 7 - (intOf i).toNat)
  case atStart => exact ⟨0, [], 0, Nat.zero_le _, by rw [HZ.out], rfl, rfl, S1.out⟩
  case round =>
    clear S1
    obtain ⟨j, xs, z, hj, rfl, rfl, ht, s2⟩ := hrel
    have T2 := hide ht
    have S2 := hide s2
    obtain ⟨hxl, _, hzl⟩ := tst_some ht
    have HXL := hide hxl
    clear ht s2 hxl
    by_cases hlt : j < 7
    · have hlt' : (j : Int) < 7 := by omega
      cases hk : tk (nbs (s.extract z s.size)) with
      | none =>
        exfalso
        rw [nbs_sfx] at hk
        have := tst_stop T2.out hk 7 hlt
        rw [HT.out] at this
        cases this
      | some p =>
        obtain ⟨n, q⟩ := p
        have TS := hide fun u => take_some (s.extract z s.size) n q hk u
        rw [sfx_sfx] at TS
        rw [nbs_sfx] at hk
        have T3 := hide (tst_next T2.out hk)
        clear hk
        go_wp2_with fail
        refine (TS.out _).mono ?_
        rintro r w3 ⟨rfl, b3⟩
        have S3 := hide (S2.out.below b3)
        clear b3
        have hc : w3.cell? ⟨N + 1, j, none⟩ = some (.int .i64 0) := by
          rw [cell_of S3.out.tl, row_at _ j (by rw [fill_len xs j HXL.out hj]; exact hlt), fill_at xs j HXL.out hlt]
        have hf := frozen_of S3.out.tl j
        have S4 : Hid (DeW w (w3.setCell ⟨N + 1, j, none⟩ (.int .i64 (n : Int))) N ((xs ++ [(n : Int)]) ++ List.replicate (7 - (j + 1)) 0)) := by
          show DeW _ _ _ _
          rw [← fill_set xs j HXL.out hlt]
          exact S3.out.set j (n : Int)
        go_wp2_with fail
        go_roundw
        case rel => exact ⟨j + 1, xs ++ [(n : Int)], z + q, by omega, rfl, by go_num, T3.out, S4.out⟩
        case measure => simp [intOf]; omega
    · have hlt' : ¬ ((j : Int) < 7) := by omega
      obtain rfl : j = 7 := by omega
      have hh := T2.out
      rw [HT.out] at hh
      simp only [Option.some.injEq, Prod.mk.injEq] at hh
      obtain ⟨rfl, rfl⟩ := hh
      have S3 : Hid (DeW w wr N [t0, t1, t2, t3, t4, t5, (n : Int)]) := S2.out
      clear S2 T2 HXL
      have r0 : wr.cell? ⟨N + 1, 0, none⟩ = some (.int .i64 t0) := cell_of S3.out.tl 0
      have r1 : wr.cell? ⟨N + 1, 1, none⟩ = some (.int .i64 t1) := cell_of S3.out.tl 1
      have r2 : wr.cell? ⟨N + 1, 2, none⟩ = some (.int .i64 t2) := cell_of S3.out.tl 2
      have r3 : wr.cell? ⟨N + 1, 3, none⟩ = some (.int .i64 t3) := cell_of S3.out.tl 3
      have r4 : wr.cell? ⟨N + 1, 4, none⟩ = some (.int .i64 t4) := cell_of S3.out.tl 4
      have r5 : wr.cell? ⟨N + 1, 5, none⟩ = some (.int .i64 t5) := cell_of S3.out.tl 5
      have r6 : wr.cell? ⟨N + 1, 6, none⟩ = some (.int .i64 (n : Int)) := cell_of S3.out.tl 6
      go_wp2_with fail
      refine (EVT.out _).mono ?_
      rintro r w4 ⟨rfl, b4⟩
      have S4 := hide (S3.out.below b4)
      have s4 := b4.size
      clear b4 S3 r0 r1 r2 r3 r4 r5 r6 EVT
      have b5 := below_alloc w4 (.cells #[.int .i64 t0, .int .i64 (t1 - 1), .int .i64 (t2 - 1), .int .i64 (t3 - 1), .int .i64 (t4 - 1), .int .i64 (t5 - 1), .bool b1, .bool b2] 23)
      have S5 := hide (S4.out.below b5)
      have E5 := hide (heap_new w4 (.cells #[.int .i64 t0, .int .i64 (t1 - 1), .int .i64 (t2 - 1), .int .i64 (t3 - 1), .int .i64 (t4 - 1), .int .i64 (t5 - 1), .bool b1, .bool b2] 23))
      clear b5 S4
      go_wp2_with fail
      generalize w4.alloc (.cells #[.int .i64 t0, .int .i64 (t1 - 1), .int .i64 (t2 - 1), .int .i64 (t3 - 1), .int .i64 (t4 - 1), .int .i64 (t5 - 1), .bool b1, .bool b2] 23) = W5 at S5 E5 ⊢
      generalize w4.heap.size = M at E5 ⊢
      have r0 : W5.cell? ⟨N + 1, 0, none⟩ = some (.int .i64 t0) := cell_of S5.out.tl 0
      have r1 : W5.cell? ⟨N + 1, 1, none⟩ = some (.int .i64 t1) := cell_of S5.out.tl 1
      have r2 : W5.cell? ⟨N + 1, 2, none⟩ = some (.int .i64 t2) := cell_of S5.out.tl 2
      have r3 : W5.cell? ⟨N + 1, 3, none⟩ = some (.int .i64 t3) := cell_of S5.out.tl 3
      have r4 : W5.cell? ⟨N + 1, 4, none⟩ = some (.int .i64 t4) := cell_of S5.out.tl 4
      have r5 : W5.cell? ⟨N + 1, 5, none⟩ = some (.int .i64 t5) := cell_of S5.out.tl 5
      have r6 : W5.cell? ⟨N + 1, 6, none⟩ = some (.int .i64 (n : Int)) := cell_of S5.out.tl 6
      have x0 : W5.cell? ⟨M, 0, none⟩ = some (.int .i64 t0) := cell_of E5.out 0
      have x1 : W5.cell? ⟨M, 1, none⟩ = some (.int .i64 (t1 - 1)) := cell_of E5.out 1
      have x2 : W5.cell? ⟨M, 2, none⟩ = some (.int .i64 (t2 - 1)) := cell_of E5.out 2
      have x3 : W5.cell? ⟨M, 3, none⟩ = some (.int .i64 (t3 - 1)) := cell_of E5.out 3
      have x4 : W5.cell? ⟨M, 4, none⟩ = some (.int .i64 (t4 - 1)) := cell_of E5.out 4
      have x5 : W5.cell? ⟨M, 5, none⟩ = some (.int .i64 (t5 - 1)) := cell_of E5.out 5
      have x6 : W5.cell? ⟨M, 6, none⟩ = some (.bool b1) := cell_of E5.out 6
      have x7 : W5.cell? ⟨M, 7, none⟩ = some (.bool b2) := cell_of E5.out 7
      go_region_held3 (fun w' => w'.cell? ⟨M, 0, none⟩ = some (.int .i64 t0) ∧ w'.cell? ⟨M, 1, none⟩ = some (.int .i64 (t1 - 1)) ∧ w'.cell? ⟨M, 2, none⟩ = some (.int .i64 (t2 - 1)) ∧ w'.cell? ⟨M, 3, none⟩ = some (.int .i64 (t3 - 1)) ∧ w'.cell? ⟨M, 4, none⟩ = some (.int .i64 (t4 - 1)) ∧ w'.cell? ⟨M, 5, none⟩ = some (.int .i64 (t5 - 1)) ∧ w'.cell? ⟨M, 6, none⟩ = some (.bool b1) ∧ w'.cell? ⟨M, 7, none⟩ = some (.bool b2) ∧ w'.cell? ⟨N + 1, 0, none⟩ = some (.int .i64 t0) ∧ w'.cell? ⟨N + 1, 1, none⟩ = some (.int .i64 t1) ∧ w'.cell? ⟨N + 1, 2, none⟩ = some (.int .i64 t2) ∧ w'.cell? ⟨N + 1, 3, none⟩ = some (.int .i64 t3) ∧ w'.cell? ⟨N + 1, 4, none⟩ = some (.int .i64 t4) ∧ w'.cell? ⟨N + 1, 5, none⟩ = some (.int .i64 t5) ∧ w'.cell? ⟨N + 1, 6, none⟩ = some (.int .i64 (n : Int)))
        (first
          | (go_split_ands; refine ⟨?_, ?_, ?_, ?_, ?_, ?_, ?_, ?_, ?_, ?_, ?_, ?_, ?_, ?_, ?_⟩ <;> (with_reducible (refine cellB ?_ c6)) <;> with_reducible assumption)
          | (go_split_ands; refine ⟨?_, ?_, ?_, ?_, ?_, ?_, ?_, ?_, ?_, ?_, ?_, ?_, ?_, ?_, ?_⟩ <;> (with_reducible (refine cellB ?_ c7)) <;> with_reducible assumption)
          | go_keep)
        (first
          | (go_at_call 22; refine (NUM.out _).mono ?_; rintro r w6 ⟨rfl, c6⟩)
          | (go_at_call 11; refine (CHK.out _).mono ?_; rintro r w7 ⟨rfl, c7⟩))
      have S9 := hide (S5.out.below (btr (bdrew1 _) (btr c6 c7)))
      have E9 := hide (heap_below E5.out (btr (bdrew1 _) (btr c6 c7)))
      clear c6 c7 x0 x1 x2 x3 x4 x5 x6 x7 r0 r1 r2 r3 r4 r5 r6 S5 E5
      have u0 : w7.cell? ⟨N, 0, none⟩ = some (.int .i64 0) := cell_of S9.out.rs 0
      have u1 : w7.cell? ⟨N, 1, none⟩ = some (.int .i64 0) := cell_of S9.out.rs 1
      have u2 : w7.cell? ⟨N, 2, none⟩ = some (.int .i64 0) := cell_of S9.out.rs 2
      have u3 : w7.cell? ⟨N, 3, none⟩ = some (.int .i64 0) := cell_of S9.out.rs 3
      have u4 : w7.cell? ⟨N, 4, none⟩ = some (.int .i64 0) := cell_of S9.out.rs 4
      have u5 : w7.cell? ⟨N, 5, none⟩ = some (.int .i64 0) := cell_of S9.out.rs 5
      have u6 : w7.cell? ⟨N, 6, none⟩ = some (.bool false) := cell_of S9.out.rs 6
      have u7 : w7.cell? ⟨N, 7, none⟩ = some (.bool false) := cell_of S9.out.rs 7
      have f0 := frozen_of S9.out.rs 0
      have f1 := frozen_of S9.out.rs 1
      have f2 := frozen_of S9.out.rs 2
      have f3 := frozen_of S9.out.rs 3
      have f4 := frozen_of S9.out.rs 4
      have f5 := frozen_of S9.out.rs 5
      have f6 := frozen_of S9.out.rs 6
      have f7 := frozen_of S9.out.rs 7
      have x0 : w7.cell? ⟨M, 0, none⟩ = some (.int .i64 t0) := cell_of E9.out 0
      have x1 : w7.cell? ⟨M, 1, none⟩ = some (.int .i64 (t1 - 1)) := cell_of E9.out 1
      have x2 : w7.cell? ⟨M, 2, none⟩ = some (.int .i64 (t2 - 1)) := cell_of E9.out 2
      have x3 : w7.cell? ⟨M, 3, none⟩ = some (.int .i64 (t3 - 1)) := cell_of E9.out 3
      have x4 : w7.cell? ⟨M, 4, none⟩ = some (.int .i64 (t4 - 1)) := cell_of E9.out 4
      have x5 : w7.cell? ⟨M, 5, none⟩ = some (.int .i64 (t5 - 1)) := cell_of E9.out 5
      have x6 : w7.cell? ⟨M, 6, none⟩ = some (.bool b1) := cell_of E9.out 6
      have x7 : w7.cell? ⟨M, 7, none⟩ = some (.bool b2) := cell_of E9.out 7
      go_wp2_with fail
      exact bodyPost_ret (results_row3 Try.results14 _ _ _ _ _ _ rfl rfl rfl (loadVar_ev (eig_set S9.out.rs _ _ _ _ _ _ _ _) rfl)) rfl ⟨rfl, by rw [HN.out]; exact eig_below S9.out.b (Nat.le_refl _) _ _ _ _ _ _ _ _⟩
set_option maxRecDepth 100000 in
set_option maxHeartbeats 6400000 in
theorem decB (s : ByteArray) (w : World) (t0 t1 t2 t3 t4 t5 : Int) (n z : Nat) (b1 b2 : Bool) (ck : Int) (h : tst (nbs s) 7 = some ([t0, t1, t2, t3, t4, t5, (n : Int)], z)) (hb1 : (n % 2 == 1) = b1) (hb2 : (n / 2 % 2 == 1) = b2) (hck : chk (evn t0 t1 t2 t3 t4 t5 n) = ck) (hn : n ≤ 3) (h0k : (ck != 0) = true) :
    Calls Try.prog 14 #[.string s] w fun r w' => r = .returned (.tuple #[.agg #[.int .i64 0, .int .i64 0, .int .i64 0, .int .i64 0, .int .i64 0, .int .i64 0, .bool false, .bool false], .string (bs []), .int .i64 4]) ∧ Below w.heap.size w w' := by
  have bd := tst_bd h
  have h0 := bd t0 (by simp)
  have h1 := bd t1 (by simp)
  have h2 := bd t2 (by simp)
  have h3 := bd t3 (by simp)
  have h4 := bd t4 (by simp)
  have h5 := bd t5 (by simp)
  have h6 := bd (n : Int) (by simp)
  have EVT := hide fun u => event_any t0 t1 t2 t3 t4 t5 n u (by omega) h1 h2 h3 h4 h5
  have NUM := hide fun u => numbers_any (evn t0 t1 t2 t3 t4 t5 n) u (fun x hx => by
    simp [fl, evn] at hx
    rcases hx with rfl | rfl | rfl | rfl | rfl <;> omega)
  have CHK := hide fun u => check_any (evn t0 t1 t2 t3 t4 t5 n) u
  have HEV : Hid (evv (evn t0 t1 t2 t3 t4 t5 n) = .agg #[.int .i64 t0, .int .i64 (t1 - 1), .int .i64 (t2 - 1), .int .i64 (t3 - 1), .int .i64 (t4 - 1), .int .i64 (t5 - 1), .bool (n % 2 == 1), .bool (n / 2 % 2 == 1)]) := rfl
  have HFG : Hid (fg (evn t0 t1 t2 t3 t4 t5 n) = ((n % 4 : Nat) : Int)) := fg_evn t0 t1 t2 t3 t4 t5 n
  have HNM : Hid (nm (evn t0 t1 t2 t3 t4 t5 n) = [t0, t1, t2, t3, t4, t5, fg (evn t0 t1 t2 t3 t4 t5 n)]) := by show _ = _; simp [nm, evn]
  rw [HNM.out, HFG.out] at NUM
  rw [HEV.out, hb1, hb2] at NUM CHK EVT
  rw [hck] at CHK
  simp only [row, List.map_cons, List.map_nil] at NUM EVT
  clear HEV HFG HNM hb1 hb2 hck
  rw [show n % 4 = n by omega] at NUM
  have heq := fun u => eq7 t0 t1 t2 t3 t4 t5 (n : Int) (n : Int) u true (by simp)
  have S1 := hide (DeW.start w)
  have HT := hide h
  clear h bd
  have HZ := hide (sfx_zero s)
  simp only [evc, row, List.map_cons, List.map_nil, e0] at S1
  go_enter Try.func14, Try.ntmps14
  go_wp2_with fail
  generalize (w.alloc (.cells #[.int .i64 0, .int .i64 0, .int .i64 0, .int .i64 0, .int .i64 0, .int .i64 0, .bool false, .bool false] 23)).alloc (.cells #[.int .i64 0, .int .i64 0, .int .i64 0, .int .i64 0, .int .i64 0, .int .i64 0, .int .i64 0] 57) = W at S1 ⊢
  generalize hN : w.heap.size = N at S1 ⊢
  have HN := hide hN
  clear hN
  go_loopw [0, 11] (fun sv i wr => ∃ (j : Nat) (xs : List Int) (z : Nat), j ≤ 7 ∧ sv = .string (s.extract z s.size) ∧ i = .int .i64 j ∧ tst (nbs s) j = some (xs, z) ∧ DeW w wr N (xs ++ List.replicate (7 - j) 0)) (fun _ i _ => 7 - (intOf i).toNat)
  case atStart => exact ⟨0, [], 0, Nat.zero_le _, by rw [HZ.out], rfl, rfl, S1.out⟩
  case round =>
    clear S1
    obtain ⟨j, xs, z, hj, rfl, rfl, ht, s2⟩ := hrel
    have T2 := hide ht
    have S2 := hide s2
    obtain ⟨hxl, _, hzl⟩ := tst_some ht
    have HXL := hide hxl
    clear ht s2 hxl
    by_cases hlt : j < 7
    · have hlt' : (j : Int) < 7 := by omega
      cases hk : tk (nbs (s.extract z s.size)) with
      | none =>
        exfalso
        rw [nbs_sfx] at hk
        have := tst_stop T2.out hk 7 hlt
        rw [HT.out] at this
        cases this
      | some p =>
        obtain ⟨n, q⟩ := p
        have TS := hide fun u => take_some (s.extract z s.size) n q hk u
        rw [sfx_sfx] at TS
        rw [nbs_sfx] at hk
        have T3 := hide (tst_next T2.out hk)
        clear hk
        go_wp2_with fail
        refine (TS.out _).mono ?_
        rintro r w3 ⟨rfl, b3⟩
        have S3 := hide (S2.out.below b3)
        clear b3
        have hc : w3.cell? ⟨N + 1, j, none⟩ = some (.int .i64 0) := by
          rw [cell_of S3.out.tl, row_at _ j (by rw [fill_len xs j HXL.out hj]; exact hlt), fill_at xs j HXL.out hlt]
        have hf := frozen_of S3.out.tl j
        have S4 : Hid (DeW w (w3.setCell ⟨N + 1, j, none⟩ (.int .i64 (n : Int))) N ((xs ++ [(n : Int)]) ++ List.replicate (7 - (j + 1)) 0)) := by
          show DeW _ _ _ _
          rw [← fill_set xs j HXL.out hlt]
          exact S3.out.set j (n : Int)
        go_wp2_with fail
        go_roundw
        case rel => exact ⟨j + 1, xs ++ [(n : Int)], z + q, by omega, rfl, by go_num, T3.out, S4.out⟩
        case measure => simp [intOf]; omega
    · have hlt' : ¬ ((j : Int) < 7) := by omega
      obtain rfl : j = 7 := by omega
      have hh := T2.out
      rw [HT.out] at hh
      simp only [Option.some.injEq, Prod.mk.injEq] at hh
      obtain ⟨rfl, rfl⟩ := hh
      have S3 : Hid (DeW w wr N [t0, t1, t2, t3, t4, t5, (n : Int)]) := S2.out
      clear S2 T2 HXL
      have r0 : wr.cell? ⟨N + 1, 0, none⟩ = some (.int .i64 t0) := cell_of S3.out.tl 0
      have r1 : wr.cell? ⟨N + 1, 1, none⟩ = some (.int .i64 t1) := cell_of S3.out.tl 1
      have r2 : wr.cell? ⟨N + 1, 2, none⟩ = some (.int .i64 t2) := cell_of S3.out.tl 2
      have r3 : wr.cell? ⟨N + 1, 3, none⟩ = some (.int .i64 t3) := cell_of S3.out.tl 3
      have r4 : wr.cell? ⟨N + 1, 4, none⟩ = some (.int .i64 t4) := cell_of S3.out.tl 4
      have r5 : wr.cell? ⟨N + 1, 5, none⟩ = some (.int .i64 t5) := cell_of S3.out.tl 5
      have r6 : wr.cell? ⟨N + 1, 6, none⟩ = some (.int .i64 (n : Int)) := cell_of S3.out.tl 6
      go_wp2_with fail
      refine (EVT.out _).mono ?_
      rintro r w4 ⟨rfl, b4⟩
      have S4 := hide (S3.out.below b4)
      have s4 := b4.size
      clear b4 S3 r0 r1 r2 r3 r4 r5 r6 EVT
      have b5 := below_alloc w4 (.cells #[.int .i64 t0, .int .i64 (t1 - 1), .int .i64 (t2 - 1), .int .i64 (t3 - 1), .int .i64 (t4 - 1), .int .i64 (t5 - 1), .bool b1, .bool b2] 23)
      have S5 := hide (S4.out.below b5)
      have E5 := hide (heap_new w4 (.cells #[.int .i64 t0, .int .i64 (t1 - 1), .int .i64 (t2 - 1), .int .i64 (t3 - 1), .int .i64 (t4 - 1), .int .i64 (t5 - 1), .bool b1, .bool b2] 23))
      clear b5 S4
      go_wp2_with fail
      generalize w4.alloc (.cells #[.int .i64 t0, .int .i64 (t1 - 1), .int .i64 (t2 - 1), .int .i64 (t3 - 1), .int .i64 (t4 - 1), .int .i64 (t5 - 1), .bool b1, .bool b2] 23) = W5 at S5 E5 ⊢
      generalize w4.heap.size = M at E5 ⊢
      have r0 : W5.cell? ⟨N + 1, 0, none⟩ = some (.int .i64 t0) := cell_of S5.out.tl 0
      have r1 : W5.cell? ⟨N + 1, 1, none⟩ = some (.int .i64 t1) := cell_of S5.out.tl 1
      have r2 : W5.cell? ⟨N + 1, 2, none⟩ = some (.int .i64 t2) := cell_of S5.out.tl 2
      have r3 : W5.cell? ⟨N + 1, 3, none⟩ = some (.int .i64 t3) := cell_of S5.out.tl 3
      have r4 : W5.cell? ⟨N + 1, 4, none⟩ = some (.int .i64 t4) := cell_of S5.out.tl 4
      have r5 : W5.cell? ⟨N + 1, 5, none⟩ = some (.int .i64 t5) := cell_of S5.out.tl 5
      have r6 : W5.cell? ⟨N + 1, 6, none⟩ = some (.int .i64 (n : Int)) := cell_of S5.out.tl 6
      have x0 : W5.cell? ⟨M, 0, none⟩ = some (.int .i64 t0) := cell_of E5.out 0
      have x1 : W5.cell? ⟨M, 1, none⟩ = some (.int .i64 (t1 - 1)) := cell_of E5.out 1
      have x2 : W5.cell? ⟨M, 2, none⟩ = some (.int .i64 (t2 - 1)) := cell_of E5.out 2
      have x3 : W5.cell? ⟨M, 3, none⟩ = some (.int .i64 (t3 - 1)) := cell_of E5.out 3
      have x4 : W5.cell? ⟨M, 4, none⟩ = some (.int .i64 (t4 - 1)) := cell_of E5.out 4
      have x5 : W5.cell? ⟨M, 5, none⟩ = some (.int .i64 (t5 - 1)) := cell_of E5.out 5
      have x6 : W5.cell? ⟨M, 6, none⟩ = some (.bool b1) := cell_of E5.out 6
      have x7 : W5.cell? ⟨M, 7, none⟩ = some (.bool b2) := cell_of E5.out 7
      go_region_held3 (fun w' => w'.cell? ⟨M, 0, none⟩ = some (.int .i64 t0) ∧ w'.cell? ⟨M, 1, none⟩ = some (.int .i64 (t1 - 1)) ∧ w'.cell? ⟨M, 2, none⟩ = some (.int .i64 (t2 - 1)) ∧ w'.cell? ⟨M, 3, none⟩ = some (.int .i64 (t3 - 1)) ∧ w'.cell? ⟨M, 4, none⟩ = some (.int .i64 (t4 - 1)) ∧ w'.cell? ⟨M, 5, none⟩ = some (.int .i64 (t5 - 1)) ∧ w'.cell? ⟨M, 6, none⟩ = some (.bool b1) ∧ w'.cell? ⟨M, 7, none⟩ = some (.bool b2) ∧ w'.cell? ⟨N + 1, 0, none⟩ = some (.int .i64 t0) ∧ w'.cell? ⟨N + 1, 1, none⟩ = some (.int .i64 t1) ∧ w'.cell? ⟨N + 1, 2, none⟩ = some (.int .i64 t2) ∧ w'.cell? ⟨N + 1, 3, none⟩ = some (.int .i64 t3) ∧ w'.cell? ⟨N + 1, 4, none⟩ = some (.int .i64 t4) ∧ w'.cell? ⟨N + 1, 5, none⟩ = some (.int .i64 t5) ∧ w'.cell? ⟨N + 1, 6, none⟩ = some (.int .i64 (n : Int)))
        (first
          | (go_split_ands; refine ⟨?_, ?_, ?_, ?_, ?_, ?_, ?_, ?_, ?_, ?_, ?_, ?_, ?_, ?_, ?_⟩ <;> (with_reducible (refine cellB ?_ c6)) <;> with_reducible assumption)
          | (go_split_ands; refine ⟨?_, ?_, ?_, ?_, ?_, ?_, ?_, ?_, ?_, ?_, ?_, ?_, ?_, ?_, ?_⟩ <;> (with_reducible (refine cellB ?_ c7)) <;> with_reducible assumption)
          | go_keep)
        (first
          | (go_at_call 22; refine (NUM.out _).mono ?_; rintro r w6 ⟨rfl, c6⟩)
          | (go_at_call 11; refine (CHK.out _).mono ?_; rintro r w7 ⟨rfl, c7⟩))
      have S9 := hide (S5.out.below (btr (bdrew1 _) (btr c6 c7)))
      have E9 := hide (heap_below E5.out (btr (bdrew1 _) (btr c6 c7)))
      clear c6 c7 x0 x1 x2 x3 x4 x5 x6 x7 r0 r1 r2 r3 r4 r5 r6 S5 E5
      have u0 : w7.cell? ⟨N, 0, none⟩ = some (.int .i64 0) := cell_of S9.out.rs 0
      have u1 : w7.cell? ⟨N, 1, none⟩ = some (.int .i64 0) := cell_of S9.out.rs 1
      have u2 : w7.cell? ⟨N, 2, none⟩ = some (.int .i64 0) := cell_of S9.out.rs 2
      have u3 : w7.cell? ⟨N, 3, none⟩ = some (.int .i64 0) := cell_of S9.out.rs 3
      have u4 : w7.cell? ⟨N, 4, none⟩ = some (.int .i64 0) := cell_of S9.out.rs 4
      have u5 : w7.cell? ⟨N, 5, none⟩ = some (.int .i64 0) := cell_of S9.out.rs 5
      have u6 : w7.cell? ⟨N, 6, none⟩ = some (.bool false) := cell_of S9.out.rs 6
      have u7 : w7.cell? ⟨N, 7, none⟩ = some (.bool false) := cell_of S9.out.rs 7
      have f0 := frozen_of S9.out.rs 0
      have f1 := frozen_of S9.out.rs 1
      have f2 := frozen_of S9.out.rs 2
      have f3 := frozen_of S9.out.rs 3
      have f4 := frozen_of S9.out.rs 4
      have f5 := frozen_of S9.out.rs 5
      have f6 := frozen_of S9.out.rs 6
      have f7 := frozen_of S9.out.rs 7
      clear E9
      go_wp2_with fail
      exact bodyPost_ret (results_row3 Try.results14 _ _ _ _ _ _ rfl rfl rfl (loadVar_ev (eig_set S9.out.rs _ _ _ _ _ _ _ _) rfl)) rfl ⟨rfl, by rw [HN.out]; exact eig_below S9.out.b (Nat.le_refl _) _ _ _ _ _ _ _ _⟩
set_option maxRecDepth 100000 in
set_option maxHeartbeats 6400000 in
theorem decC (s : ByteArray) (w : World) (t0 t1 t2 t3 t4 t5 : Int) (n z : Nat) (b1 b2 : Bool) (h : tst (nbs s) 7 = some ([t0, t1, t2, t3, t4, t5, (n : Int)], z)) (hb1 : (n % 2 == 1) = b1) (hb2 : (n / 2 % 2 == 1) = b2) (hn : 3 < n) :
    Calls Try.prog 14 #[.string s] w fun r w' => r = .returned (.tuple #[.agg #[.int .i64 0, .int .i64 0, .int .i64 0, .int .i64 0, .int .i64 0, .int .i64 0, .bool false, .bool false], .string (bs []), .int .i64 4]) ∧ Below w.heap.size w w' := by
  have bd := tst_bd h
  have h0 := bd t0 (by simp)
  have h1 := bd t1 (by simp)
  have h2 := bd t2 (by simp)
  have h3 := bd t3 (by simp)
  have h4 := bd t4 (by simp)
  have h5 := bd t5 (by simp)
  have h6 := bd (n : Int) (by simp)
  have EVT := hide fun u => event_any t0 t1 t2 t3 t4 t5 n u (by omega) h1 h2 h3 h4 h5
  have NUM := hide fun u => numbers_any (evn t0 t1 t2 t3 t4 t5 n) u (fun x hx => by
    simp [fl, evn] at hx
    rcases hx with rfl | rfl | rfl | rfl | rfl <;> omega)
  have HEV : Hid (evv (evn t0 t1 t2 t3 t4 t5 n) = .agg #[.int .i64 t0, .int .i64 (t1 - 1), .int .i64 (t2 - 1), .int .i64 (t3 - 1), .int .i64 (t4 - 1), .int .i64 (t5 - 1), .bool (n % 2 == 1), .bool (n / 2 % 2 == 1)]) := rfl
  have HFG : Hid (fg (evn t0 t1 t2 t3 t4 t5 n) = ((n % 4 : Nat) : Int)) := fg_evn t0 t1 t2 t3 t4 t5 n
  have HNM : Hid (nm (evn t0 t1 t2 t3 t4 t5 n) = [t0, t1, t2, t3, t4, t5, fg (evn t0 t1 t2 t3 t4 t5 n)]) := by show _ = _; simp [nm, evn]
  rw [HNM.out, HFG.out] at NUM
  rw [HEV.out, hb1, hb2] at NUM EVT
  simp only [row, List.map_cons, List.map_nil] at NUM EVT
  clear HEV HFG HNM hb1 hb2
  have hne : ((n % 4 : Nat) : Int) ≠ (n : Int) := by omega
  generalize ((n % 4 : Nat) : Int) = m4 at NUM hne
  have heq := fun u => eq7 t0 t1 t2 t3 t4 t5 m4 (n : Int) u false (by simpa using hne)
  have S1 := hide (DeW.start w)
  have HT := hide h
  clear h bd
  have HZ := hide (sfx_zero s)
  simp only [evc, row, List.map_cons, List.map_nil, e0] at S1
  go_enter Try.func14, Try.ntmps14
  go_wp2_with fail
  generalize (w.alloc (.cells #[.int .i64 0, .int .i64 0, .int .i64 0, .int .i64 0, .int .i64 0, .int .i64 0, .bool false, .bool false] 23)).alloc (.cells #[.int .i64 0, .int .i64 0, .int .i64 0, .int .i64 0, .int .i64 0, .int .i64 0, .int .i64 0] 57) = W at S1 ⊢
  generalize hN : w.heap.size = N at S1 ⊢
  have HN := hide hN
  clear hN
  go_loopw [0, 11] (fun sv i wr => ∃ (j : Nat) (xs : List Int) (z : Nat), j ≤ 7 ∧ sv = .string (s.extract z s.size) ∧ i = .int .i64 j ∧ tst (nbs s) j = some (xs, z) ∧ DeW w wr N (xs ++ List.replicate (7 - j) 0)) (fun _ i _ => 7 - (intOf i).toNat)
  case atStart => exact ⟨0, [], 0, Nat.zero_le _, by rw [HZ.out], rfl, rfl, S1.out⟩
  case round =>
    clear S1
    obtain ⟨j, xs, z, hj, rfl, rfl, ht, s2⟩ := hrel
    have T2 := hide ht
    have S2 := hide s2
    obtain ⟨hxl, _, hzl⟩ := tst_some ht
    have HXL := hide hxl
    clear ht s2 hxl
    by_cases hlt : j < 7
    · have hlt' : (j : Int) < 7 := by omega
      cases hk : tk (nbs (s.extract z s.size)) with
      | none =>
        exfalso
        rw [nbs_sfx] at hk
        have := tst_stop T2.out hk 7 hlt
        rw [HT.out] at this
        cases this
      | some p =>
        obtain ⟨n, q⟩ := p
        have TS := hide fun u => take_some (s.extract z s.size) n q hk u
        rw [sfx_sfx] at TS
        rw [nbs_sfx] at hk
        have T3 := hide (tst_next T2.out hk)
        clear hk
        go_wp2_with fail
        refine (TS.out _).mono ?_
        rintro r w3 ⟨rfl, b3⟩
        have S3 := hide (S2.out.below b3)
        clear b3
        have hc : w3.cell? ⟨N + 1, j, none⟩ = some (.int .i64 0) := by
          rw [cell_of S3.out.tl, row_at _ j (by rw [fill_len xs j HXL.out hj]; exact hlt), fill_at xs j HXL.out hlt]
        have hf := frozen_of S3.out.tl j
        have S4 : Hid (DeW w (w3.setCell ⟨N + 1, j, none⟩ (.int .i64 (n : Int))) N ((xs ++ [(n : Int)]) ++ List.replicate (7 - (j + 1)) 0)) := by
          show DeW _ _ _ _
          rw [← fill_set xs j HXL.out hlt]
          exact S3.out.set j (n : Int)
        go_wp2_with fail
        go_roundw
        case rel => exact ⟨j + 1, xs ++ [(n : Int)], z + q, by omega, rfl, by go_num, T3.out, S4.out⟩
        case measure => simp [intOf]; omega
    · have hlt' : ¬ ((j : Int) < 7) := by omega
      obtain rfl : j = 7 := by omega
      have hh := T2.out
      rw [HT.out] at hh
      simp only [Option.some.injEq, Prod.mk.injEq] at hh
      obtain ⟨rfl, rfl⟩ := hh
      have S3 : Hid (DeW w wr N [t0, t1, t2, t3, t4, t5, (n : Int)]) := S2.out
      clear S2 T2 HXL
      have r0 : wr.cell? ⟨N + 1, 0, none⟩ = some (.int .i64 t0) := cell_of S3.out.tl 0
      have r1 : wr.cell? ⟨N + 1, 1, none⟩ = some (.int .i64 t1) := cell_of S3.out.tl 1
      have r2 : wr.cell? ⟨N + 1, 2, none⟩ = some (.int .i64 t2) := cell_of S3.out.tl 2
      have r3 : wr.cell? ⟨N + 1, 3, none⟩ = some (.int .i64 t3) := cell_of S3.out.tl 3
      have r4 : wr.cell? ⟨N + 1, 4, none⟩ = some (.int .i64 t4) := cell_of S3.out.tl 4
      have r5 : wr.cell? ⟨N + 1, 5, none⟩ = some (.int .i64 t5) := cell_of S3.out.tl 5
      have r6 : wr.cell? ⟨N + 1, 6, none⟩ = some (.int .i64 (n : Int)) := cell_of S3.out.tl 6
      go_wp2_with fail
      refine (EVT.out _).mono ?_
      rintro r w4 ⟨rfl, b4⟩
      have S4 := hide (S3.out.below b4)
      have s4 := b4.size
      clear b4 S3 r0 r1 r2 r3 r4 r5 r6 EVT
      have b5 := below_alloc w4 (.cells #[.int .i64 t0, .int .i64 (t1 - 1), .int .i64 (t2 - 1), .int .i64 (t3 - 1), .int .i64 (t4 - 1), .int .i64 (t5 - 1), .bool b1, .bool b2] 23)
      have S5 := hide (S4.out.below b5)
      have E5 := hide (heap_new w4 (.cells #[.int .i64 t0, .int .i64 (t1 - 1), .int .i64 (t2 - 1), .int .i64 (t3 - 1), .int .i64 (t4 - 1), .int .i64 (t5 - 1), .bool b1, .bool b2] 23))
      clear b5 S4
      go_wp2_with fail
      generalize w4.alloc (.cells #[.int .i64 t0, .int .i64 (t1 - 1), .int .i64 (t2 - 1), .int .i64 (t3 - 1), .int .i64 (t4 - 1), .int .i64 (t5 - 1), .bool b1, .bool b2] 23) = W5 at S5 E5 ⊢
      generalize w4.heap.size = M at E5 ⊢
      have r0 : W5.cell? ⟨N + 1, 0, none⟩ = some (.int .i64 t0) := cell_of S5.out.tl 0
      have r1 : W5.cell? ⟨N + 1, 1, none⟩ = some (.int .i64 t1) := cell_of S5.out.tl 1
      have r2 : W5.cell? ⟨N + 1, 2, none⟩ = some (.int .i64 t2) := cell_of S5.out.tl 2
      have r3 : W5.cell? ⟨N + 1, 3, none⟩ = some (.int .i64 t3) := cell_of S5.out.tl 3
      have r4 : W5.cell? ⟨N + 1, 4, none⟩ = some (.int .i64 t4) := cell_of S5.out.tl 4
      have r5 : W5.cell? ⟨N + 1, 5, none⟩ = some (.int .i64 t5) := cell_of S5.out.tl 5
      have r6 : W5.cell? ⟨N + 1, 6, none⟩ = some (.int .i64 (n : Int)) := cell_of S5.out.tl 6
      have x0 : W5.cell? ⟨M, 0, none⟩ = some (.int .i64 t0) := cell_of E5.out 0
      have x1 : W5.cell? ⟨M, 1, none⟩ = some (.int .i64 (t1 - 1)) := cell_of E5.out 1
      have x2 : W5.cell? ⟨M, 2, none⟩ = some (.int .i64 (t2 - 1)) := cell_of E5.out 2
      have x3 : W5.cell? ⟨M, 3, none⟩ = some (.int .i64 (t3 - 1)) := cell_of E5.out 3
      have x4 : W5.cell? ⟨M, 4, none⟩ = some (.int .i64 (t4 - 1)) := cell_of E5.out 4
      have x5 : W5.cell? ⟨M, 5, none⟩ = some (.int .i64 (t5 - 1)) := cell_of E5.out 5
      have x6 : W5.cell? ⟨M, 6, none⟩ = some (.bool b1) := cell_of E5.out 6
      have x7 : W5.cell? ⟨M, 7, none⟩ = some (.bool b2) := cell_of E5.out 7
      go_region_with (go_at_call 22; refine (NUM.out _).mono ?_; rintro r w6 ⟨rfl, c6⟩; have q0 := cellB (w := W5.drew) r0 c6; have q1 := cellB (w := W5.drew) r1 c6; have q2 := cellB (w := W5.drew) r2 c6; have q3 := cellB (w := W5.drew) r3 c6; have q4 := cellB (w := W5.drew) r4 c6; have q5 := cellB (w := W5.drew) r5 c6; have q6 := cellB (w := W5.drew) r6 c6)
      all_goals
        have S9 := hide (S5.out.below (btr (bdrew1 _) c6))
        have E9 := hide (heap_below E5.out (btr (bdrew1 _) c6))
        clear c6 x0 x1 x2 x3 x4 x5 x6 x7 r0 r1 r2 r3 r4 r5 r6 S5 E5
        have u0 : w6.cell? ⟨N, 0, none⟩ = some (.int .i64 0) := cell_of S9.out.rs 0
        have u1 : w6.cell? ⟨N, 1, none⟩ = some (.int .i64 0) := cell_of S9.out.rs 1
        have u2 : w6.cell? ⟨N, 2, none⟩ = some (.int .i64 0) := cell_of S9.out.rs 2
        have u3 : w6.cell? ⟨N, 3, none⟩ = some (.int .i64 0) := cell_of S9.out.rs 3
        have u4 : w6.cell? ⟨N, 4, none⟩ = some (.int .i64 0) := cell_of S9.out.rs 4
        have u5 : w6.cell? ⟨N, 5, none⟩ = some (.int .i64 0) := cell_of S9.out.rs 5
        have u6 : w6.cell? ⟨N, 6, none⟩ = some (.bool false) := cell_of S9.out.rs 6
        have u7 : w6.cell? ⟨N, 7, none⟩ = some (.bool false) := cell_of S9.out.rs 7
        have f0 := frozen_of S9.out.rs 0
        have f1 := frozen_of S9.out.rs 1
        have f2 := frozen_of S9.out.rs 2
        have f3 := frozen_of S9.out.rs 3
        have f4 := frozen_of S9.out.rs 4
        have f5 := frozen_of S9.out.rs 5
        have f6 := frozen_of S9.out.rs 6
        have f7 := frozen_of S9.out.rs 7
        clear E9
        go_wp2_with fail
        exact bodyPost_ret (results_row3 Try.results14 _ _ _ _ _ _ rfl rfl rfl (loadVar_ev (eig_set S9.out.rs _ _ _ _ _ _ _ _) rfl)) rfl ⟨rfl, by rw [HN.out]; exact eig_below S9.out.b (Nat.le_refl _) _ _ _ _ _ _ _ _⟩
theorem seven {xs : List Int} (h : xs.length = 7) : ∃ t0 t1 t2 t3 t4 t5 t6, xs = [t0, t1, t2, t3, t4, t5, t6] := by
  match xs, h with
  | [t0, t1, t2, t3, t4, t5, t6], _ => exact ⟨t0, t1, t2, t3, t4, t5, t6, rfl⟩
theorem decode_none (s : ByteArray) (w : World) (h : dec (nbs s) = none) :
    Calls Try.prog 14 #[.string s] w fun r w' => r = .returned (.tuple #[evv e0, .string (bs []), .int .i64 4]) ∧ Below w.heap.size w w' := by
  cases ht : tst (nbs s) 7 with
  | none => exact decode_none0 s w ht
  | some p =>
    obtain ⟨xs, z⟩ := p
    obtain ⟨t0, t1, t2, t3, t4, t5, t6, rfl⟩ := seven (tst_some ht).1
    obtain ⟨n, rfl⟩ := Int.eq_ofNat_of_zero_le (tst_bd ht t6 (by simp)).1
    unfold dec at h
    rw [ht] at h
    have h' : ¬ ((n : Int) ≤ 3 ∧ chk (evn t0 t1 t2 t3 t4 t5 n) = 0) := by
      intro q
      have e : evl [t0, t1, t2, t3, t4, t5, (n : Int)] = evn t0 t1 t2 t3 t4 t5 n := rfl
      simp only [e] at h
      rw [if_pos (show nth [t0, t1, t2, t3, t4, t5, (n : Int)] 6 ≤ 3 ∧ _ from q)] at h
      cases h
    by_cases hn : n ≤ 3
    · exact decB s w t0 t1 t2 t3 t4 t5 n z _ _ _ ht rfl rfl rfl hn (by simp; exact fun q => h' ⟨by omega, q⟩)
    · exact decC s w t0 t1 t2 t3 t4 t5 n z _ _ ht rfl rfl (by omega)
theorem decode_some (s : ByteArray) (w : World) (e : Ev) (z : Nat) (h : dec (nbs s) = some (e, z)) :
    Calls Try.prog 14 #[.string s] w fun r w' => r = .returned (.tuple #[evv e, .string (s.extract z s.size), .int .i64 0]) ∧ Below w.heap.size w w' := by
  cases ht : tst (nbs s) 7 with
  | none => unfold dec at h; rw [ht] at h; cases h
  | some p =>
    obtain ⟨xs, z'⟩ := p
    obtain ⟨t0, t1, t2, t3, t4, t5, t6, rfl⟩ := seven (tst_some ht).1
    obtain ⟨n, rfl⟩ := Int.eq_ofNat_of_zero_le (tst_bd ht t6 (by simp)).1
    unfold dec at h
    rw [ht] at h
    have e1 : evl [t0, t1, t2, t3, t4, t5, (n : Int)] = evn t0 t1 t2 t3 t4 t5 n := rfl
    simp only [e1] at h
    split at h
    · rename_i q
      cases h
      have q1 : (n : Int) ≤ 3 := q.1
      exact decA s w t0 t1 t2 t3 t4 t5 n z _ _ _ ht rfl rfl rfl (by omega) q.2
    · cases h
end En
end Go.Proofs.Ytlcaelfkgillmaa
