/- The reference's Decode where all numbers are there, over this seat's program. -/
import Derived.Test.YtlcaelfkgillmaaOe
namespace Go.Proofs.Ytlcaelfkgillmaa
open Go.ChangeShapes Go.WideShapes Go.ChangeAt Go.RowKit
namespace En
open Ba Re

set_option maxRecDepth 100000 in
set_option maxHeartbeats 6400000 in
theorem rdecA (s : ByteArray) (w : World) (hs : s.size ≤ maxLen) (t0 t1 t2 t3 t4 t5 : Int) (n z : Nat) (b1 b2 : Bool) (ck : Int) (h : tst (nbs s) 7 = some ([t0, t1, t2, t3, t4, t5, (n : Int)], z)) (hb1 : (n % 2 == 1) = b1) (hb2 : (n / 2 % 2 == 1) = b2) (hck : chk (evn t0 t1 t2 t3 t4 t5 n) = ck) (hn : n ≤ 3) (h0k : ck = 0) :
    Calls Try.prog 15 #[.string s] w fun r w' => r = .returned (.tuple #[.agg #[.int .i64 t0, .int .i64 (t1 - 1), .int .i64 (t2 - 1), .int .i64 (t3 - 1), .int .i64 (t4 - 1), .int .i64 (t5 - 1), .bool b1, .bool b2, .int .i64 (z : Int)], .int .i64 0]) ∧ Below w.heap.size w w' := by
  unfold maxLen at hs
  have bd := tst_bd h
  have h0 := bd t0 (by simp)
  have h1 := bd t1 (by simp)
  have h2 := bd t2 (by simp)
  have h3 := bd t3 (by simp)
  have h4 := bd t4 (by simp)
  have h5 := bd t5 (by simp)
  have h6 := bd (n : Int) (by simp)
  clear bd
  have CHK := hide fun u => rcheck_any (evn t0 t1 t2 t3 t4 t5 n) u
  have HEV : Hid (evv (evn t0 t1 t2 t3 t4 t5 n) = .agg #[.int .i64 t0, .int .i64 (t1 - 1), .int .i64 (t2 - 1), .int .i64 (t3 - 1), .int .i64 (t4 - 1), .int .i64 (t5 - 1), .bool (n % 2 == 1), .bool (n / 2 % 2 == 1)]) := rfl
  rw [HEV.out, hb1, hb2, hck] at CHK
  obtain ⟨ra, hra⟩ : ∃ y, (n : Int).tmod 2 = y := ⟨_, rfl⟩
  obtain ⟨qa, hqa⟩ : ∃ y, (n : Int).tdiv 2 = y := ⟨_, rfl⟩
  have era : ra = (n : Int) % 2 := by rw [← hra, Int.tmod_eq_emod_of_nonneg (by omega)]
  have eqa : qa = (n : Int) / 2 := by rw [← hqa, Int.tdiv_eq_ediv_of_nonneg (by omega)]
  have wra : IntKind.i64.wrap ra = ra := by rw [IntKind.wrap_i64]; omega
  have wqa : IntKind.i64.wrap qa = qa := by rw [IntKind.wrap_i64]; omega
  have m1 : (ra == 1) = b1 := by
    rw [← hb1, Bool.eq_iff_iff]
    simp
    omega
  have m2 : (qa == 1) = b2 := by
    rw [← hb2, Bool.eq_iff_iff]
    simp
    omega
  clear era eqa
  have m3 : decide ((3 : Int) < (n : Int)) = false := decide_eq_false (by omega)
  clear HEV hb1 hb2 hck
  subst h0k
  have S1 := hide (DrW.start w)
  have HT := hide h
  clear h
  have HZ := hide (sfx_zero s)
  simp only [gz, row, List.map_cons, List.map_nil] at S1
  go_enter Try.func15, Try.ntmps15
  go_wp2_with fail
  generalize (w.alloc (.cells #[.int .i64 0, .int .i64 0, .int .i64 0, .int .i64 0, .int .i64 0, .int .i64 0, .bool false, .bool false, .int .i64 0] 36)).alloc (.cells #[.int .i64 0, .int .i64 0, .int .i64 0, .int .i64 0, .int .i64 0, .int .i64 0, .int .i64 0] 56) = W at S1 ⊢
  generalize hN : w.heap.size = N at S1 ⊢
  have HN := hide hN
  clear hN
  go_loopw [5, 6] (fun av i wr => ∃ (j : Nat) (xs : List Int) (z : Nat), j ≤ 7 ∧ av = .int .i64 z ∧ i = .int .i64 j ∧ tst (nbs s) j = some (xs, z) ∧ DrW w wr N (xs ++ List.replicate (7 - j) 0)) (fun _ i _ => 7 - (intOf i).toNat)
  case atStart => exact ⟨0, [], 0, Nat.zero_le _, rfl, rfl, rfl, S1.out⟩
  case round =>
    clear S1
    obtain ⟨j, xs, z', hj, rfl, rfl, ht, s2⟩ := hrel
    have T2 := hide ht
    have S2 := hide s2
    obtain ⟨hxl, _, hzl⟩ := tst_some ht
    rw [nbs_length] at hzl
    have HXL := hide hxl
    clear ht s2 hxl
    by_cases hlt : j < 7
    · have hlt' : (j : Int) < 7 := by omega
      have hz1 : (z' : Int) ≤ (s.size : Int) := by omega
      cases hk : tk (nbs (s.extract z' s.size)) with
      | none =>
        exfalso
        rw [nbs_sfx] at hk
        have := tst_stop T2.out hk 7 hlt
        rw [HT.out] at this
        cases this
      | some p =>
        obtain ⟨n', q⟩ := p
        have TS := hide fun u => rtake_some (s.extract z' s.size) n' q hk u
        rw [nbs_sfx] at hk
        have hql := tk_le hk
        rw [List.length_drop, nbs_length] at hql
        have T3 := hide (tst_next T2.out hk)
        clear hk
        go_wp2_with fail
        refine (TS.out _).mono ?_
        rintro r w3 ⟨rfl, b3⟩
        have b4 := below_alloc w3 (.cells #[.int .i64 (n' : Int), .int .i64 (q : Int)] 80)
        have S3 := hide (S2.out.below (btr b3 b4))
        have K3 := hide (heap_new w3 (.cells #[.int .i64 (n' : Int), .int .i64 (q : Int)] 80))
        clear b3 b4
        have hc : (w3.alloc (.cells #[.int .i64 (n' : Int), .int .i64 (q : Int)] 80)).cell? ⟨N + 1, j, none⟩ = some (.int .i64 0) := by
          rw [cell_of S3.out.tl, row_at _ j (by rw [fill_len xs j HXL.out hj]; exact hlt), fill_at xs j HXL.out hlt]
        have hf := frozen_of S3.out.tl j
        have k0 : (w3.alloc (.cells #[.int .i64 (n' : Int), .int .i64 (q : Int)] 80)).cell? ⟨w3.heap.size, 0, none⟩ = some (.int .i64 (n' : Int)) := cell_of K3.out 0
        have k1 : (w3.alloc (.cells #[.int .i64 (n' : Int), .int .i64 (q : Int)] 80)).cell? ⟨w3.heap.size, 1, none⟩ = some (.int .i64 (q : Int)) := cell_of K3.out 1
        have hNw : N + 1 < (w3.alloc (.cells #[.int .i64 (n' : Int), .int .i64 (q : Int)] 80)).heap.size := heap_lt S3.out.tl
        have hNe : N + 1 ≠ w3.heap.size := by
          intro e
          have q1 := S3.out.tl
          rw [e, K3.out] at q1
          simp only [Option.some.injEq, Obj.cells.injEq] at q1
          exact absurd q1.2.1 (by decide)
        have S4 : Hid (DrW w ((w3.alloc (.cells #[.int .i64 (n' : Int), .int .i64 (q : Int)] 80)).setCell ⟨N + 1, j, none⟩ (.int .i64 (n' : Int))) N ((xs ++ [(n' : Int)]) ++ List.replicate (7 - (j + 1)) 0)) := by
          show DrW _ _ _ _
          rw [← fill_set xs j HXL.out hlt]
          exact S3.out.set j (n' : Int)
        go_wp2_with fail
        generalize w3.alloc (.cells #[.int .i64 (n' : Int), .int .i64 (q : Int)] 80) = W3 at *
        go_wp2_with fail
        go_roundw
        case rel => exact ⟨j + 1, xs ++ [(n' : Int)], z' + q, by omega, by go_num, by go_num, T3.out, S4.out⟩
        case measure => simp [intOf]; omega
    · have hlt' : ¬ ((j : Int) < 7) := by omega
      obtain rfl : j = 7 := by omega
      have hh := T2.out
      rw [HT.out] at hh
      simp only [Option.some.injEq, Prod.mk.injEq] at hh
      obtain ⟨rfl, rfl⟩ := hh
      have S3 : Hid (DrW w wr N [t0, t1, t2, t3, t4, t5, (n : Int)]) := S2.out
      clear S2 T2 HXL
      have r0 : wr.cell? ⟨N + 1, 0, none⟩ = some (.int .i64 t0) := cell_of S3.out.tl 0
      have r1 : wr.cell? ⟨N + 1, 1, none⟩ = some (.int .i64 t1) := cell_of S3.out.tl 1
      have r2 : wr.cell? ⟨N + 1, 2, none⟩ = some (.int .i64 t2) := cell_of S3.out.tl 2
      have r3 : wr.cell? ⟨N + 1, 3, none⟩ = some (.int .i64 t3) := cell_of S3.out.tl 3
      have r4 : wr.cell? ⟨N + 1, 4, none⟩ = some (.int .i64 t4) := cell_of S3.out.tl 4
      have r5 : wr.cell? ⟨N + 1, 5, none⟩ = some (.int .i64 t5) := cell_of S3.out.tl 5
      have r6 : wr.cell? ⟨N + 1, 6, none⟩ = some (.int .i64 (n : Int)) := cell_of S3.out.tl 6
      have b5 := below_alloc wr (.cells #[.int .i64 t0, .int .i64 (t1 - 1), .int .i64 (t2 - 1), .int .i64 (t3 - 1), .int .i64 (t4 - 1), .int .i64 (t5 - 1), .bool b1, .bool b2] 23)
      have S5 := hide (S3.out.below b5)
      have E5 := hide (heap_new wr (.cells #[.int .i64 t0, .int .i64 (t1 - 1), .int .i64 (t2 - 1), .int .i64 (t3 - 1), .int .i64 (t4 - 1), .int .i64 (t5 - 1), .bool b1, .bool b2] 23))
      have hNw : N + 1 < wr.heap.size := heap_lt S3.out.tl
      clear b5 S3
      have r6' : (wr.alloc (.cells #[.int .i64 t0, .int .i64 (t1 - 1), .int .i64 (t2 - 1), .int .i64 (t3 - 1), .int .i64 (t4 - 1), .int .i64 (t5 - 1), .bool b1, .bool b2] 23)).cell? ⟨N + 1, 6, none⟩ = some (.int .i64 (n : Int)) := cell_of S5.out.tl 6
      go_wp2_with fail
      generalize wr.alloc (.cells #[.int .i64 t0, .int .i64 (t1 - 1), .int .i64 (t2 - 1), .int .i64 (t3 - 1), .int .i64 (t4 - 1), .int .i64 (t5 - 1), .bool b1, .bool b2] 23) = W5 at S5 E5 r6' ⊢
      generalize wr.heap.size = M at E5 ⊢
      refine (CHK.out _).mono ?_
      rintro r w6 ⟨rfl, b6⟩
      have S6 := hide (S5.out.below b6)
      have E6 := hide (heap_below E5.out b6)
      clear b6 S5 E5 r6' r0 r1 r2 r3 r4 r5 r6
      have u0 : w6.cell? ⟨N, 0, none⟩ = some (.int .i64 0) := cell_of S6.out.rs 0
      have u1 : w6.cell? ⟨N, 1, none⟩ = some (.int .i64 0) := cell_of S6.out.rs 1
      have u2 : w6.cell? ⟨N, 2, none⟩ = some (.int .i64 0) := cell_of S6.out.rs 2
      have u3 : w6.cell? ⟨N, 3, none⟩ = some (.int .i64 0) := cell_of S6.out.rs 3
      have u4 : w6.cell? ⟨N, 4, none⟩ = some (.int .i64 0) := cell_of S6.out.rs 4
      have u5 : w6.cell? ⟨N, 5, none⟩ = some (.int .i64 0) := cell_of S6.out.rs 5
      have u6 : w6.cell? ⟨N, 6, none⟩ = some (.bool false) := cell_of S6.out.rs 6
      have u7 : w6.cell? ⟨N, 7, none⟩ = some (.bool false) := cell_of S6.out.rs 7
      have u8 : w6.cell? ⟨N, 8, none⟩ = some (.int .i64 0) := cell_of S6.out.rs 8
      have f0 := frozen_of S6.out.rs 0
      have f1 := frozen_of S6.out.rs 1
      have f2 := frozen_of S6.out.rs 2
      have f3 := frozen_of S6.out.rs 3
      have f4 := frozen_of S6.out.rs 4
      have f5 := frozen_of S6.out.rs 5
      have f6 := frozen_of S6.out.rs 6
      have f7 := frozen_of S6.out.rs 7
      have f8 := frozen_of S6.out.rs 8
      have x0 : w6.cell? ⟨M, 0, none⟩ = some (.int .i64 t0) := cell_of E6.out 0
      have x1 : w6.cell? ⟨M, 1, none⟩ = some (.int .i64 (t1 - 1)) := cell_of E6.out 1
      have x2 : w6.cell? ⟨M, 2, none⟩ = some (.int .i64 (t2 - 1)) := cell_of E6.out 2
      have x3 : w6.cell? ⟨M, 3, none⟩ = some (.int .i64 (t3 - 1)) := cell_of E6.out 3
      have x4 : w6.cell? ⟨M, 4, none⟩ = some (.int .i64 (t4 - 1)) := cell_of E6.out 4
      have x5 : w6.cell? ⟨M, 5, none⟩ = some (.int .i64 (t5 - 1)) := cell_of E6.out 5
      have x6 : w6.cell? ⟨M, 6, none⟩ = some (.bool b1) := cell_of E6.out 6
      have x7 : w6.cell? ⟨M, 7, none⟩ = some (.bool b2) := cell_of E6.out 7
      go_wp2_with fail
      exact bodyPost_ret (results_row2 Try.results15 _ _ _ _ _ rfl rfl (loadVar_got (nin_set S6.out.rs _ _ _ _ _ _ _ _ _) rfl)) rfl ⟨rfl, by rw [HN.out]; exact nin_below S6.out.b (Nat.le_refl _) _ _ _ _ _ _ _ _ _⟩
set_option maxRecDepth 100000 in
set_option maxHeartbeats 6400000 in
theorem rdecB (s : ByteArray) (w : World) (hs : s.size ≤ maxLen) (t0 t1 t2 t3 t4 t5 : Int) (n z : Nat) (b1 b2 : Bool) (ck : Int) (h : tst (nbs s) 7 = some ([t0, t1, t2, t3, t4, t5, (n : Int)], z)) (hb1 : (n % 2 == 1) = b1) (hb2 : (n / 2 % 2 == 1) = b2) (hck : chk (evn t0 t1 t2 t3 t4 t5 n) = ck) (hn : n ≤ 3) (h0k : (ck != 0) = true) :
    Calls Try.prog 15 #[.string s] w fun r w' => r = .returned (.tuple #[.agg #[.int .i64 0, .int .i64 0, .int .i64 0, .int .i64 0, .int .i64 0, .int .i64 0, .bool false, .bool false, .int .i64 0], .int .i64 4]) ∧ Below w.heap.size w w' := by
  unfold maxLen at hs
  have bd := tst_bd h
  have h0 := bd t0 (by simp)
  have h1 := bd t1 (by simp)
  have h2 := bd t2 (by simp)
  have h3 := bd t3 (by simp)
  have h4 := bd t4 (by simp)
  have h5 := bd t5 (by simp)
  have h6 := bd (n : Int) (by simp)
  clear bd
  have CHK := hide fun u => rcheck_any (evn t0 t1 t2 t3 t4 t5 n) u
  have HEV : Hid (evv (evn t0 t1 t2 t3 t4 t5 n) = .agg #[.int .i64 t0, .int .i64 (t1 - 1), .int .i64 (t2 - 1), .int .i64 (t3 - 1), .int .i64 (t4 - 1), .int .i64 (t5 - 1), .bool (n % 2 == 1), .bool (n / 2 % 2 == 1)]) := rfl
  rw [HEV.out, hb1, hb2, hck] at CHK
  obtain ⟨ra, hra⟩ : ∃ y, (n : Int).tmod 2 = y := ⟨_, rfl⟩
  obtain ⟨qa, hqa⟩ : ∃ y, (n : Int).tdiv 2 = y := ⟨_, rfl⟩
  have era : ra = (n : Int) % 2 := by rw [← hra, Int.tmod_eq_emod_of_nonneg (by omega)]
  have eqa : qa = (n : Int) / 2 := by rw [← hqa, Int.tdiv_eq_ediv_of_nonneg (by omega)]
  have wra : IntKind.i64.wrap ra = ra := by rw [IntKind.wrap_i64]; omega
  have wqa : IntKind.i64.wrap qa = qa := by rw [IntKind.wrap_i64]; omega
  have m1 : (ra == 1) = b1 := by
    rw [← hb1, Bool.eq_iff_iff]
    simp
    omega
  have m2 : (qa == 1) = b2 := by
    rw [← hb2, Bool.eq_iff_iff]
    simp
    omega
  clear era eqa
  have m3 : decide ((3 : Int) < (n : Int)) = false := decide_eq_false (by omega)
  clear HEV hb1 hb2 hck
  have S1 := hide (DrW.start w)
  have HT := hide h
  clear h
  have HZ := hide (sfx_zero s)
  simp only [gz, row, List.map_cons, List.map_nil] at S1
  go_enter Try.func15, Try.ntmps15
  go_wp2_with fail
  generalize (w.alloc (.cells #[.int .i64 0, .int .i64 0, .int .i64 0, .int .i64 0, .int .i64 0, .int .i64 0, .bool false, .bool false, .int .i64 0] 36)).alloc (.cells #[.int .i64 0, .int .i64 0, .int .i64 0, .int .i64 0, .int .i64 0, .int .i64 0, .int .i64 0] 56) = W at S1 ⊢
  generalize hN : w.heap.size = N at S1 ⊢
  have HN := hide hN
  clear hN
  go_loopw [5, 6] (fun av i wr => ∃ (j : Nat) (xs : List Int) (z : Nat), j ≤ 7 ∧ av = .int .i64 z ∧ i = .int .i64 j ∧ tst (nbs s) j = some (xs, z) ∧ DrW w wr N (xs ++ List.replicate (7 - j) 0)) (fun _ i _ => 7 - (intOf i).toNat)
  case atStart => exact ⟨0, [], 0, Nat.zero_le _, rfl, rfl, rfl, S1.out⟩
  case round =>
    clear S1
    obtain ⟨j, xs, z', hj, rfl, rfl, ht, s2⟩ := hrel
    have T2 := hide ht
    have S2 := hide s2
    obtain ⟨hxl, _, hzl⟩ := tst_some ht
    rw [nbs_length] at hzl
    have HXL := hide hxl
    clear ht s2 hxl
    by_cases hlt : j < 7
    · have hlt' : (j : Int) < 7 := by omega
      have hz1 : (z' : Int) ≤ (s.size : Int) := by omega
      cases hk : tk (nbs (s.extract z' s.size)) with
      | none =>
        exfalso
        rw [nbs_sfx] at hk
        have := tst_stop T2.out hk 7 hlt
        rw [HT.out] at this
        cases this
      | some p =>
        obtain ⟨n', q⟩ := p
        have TS := hide fun u => rtake_some (s.extract z' s.size) n' q hk u
        rw [nbs_sfx] at hk
        have hql := tk_le hk
        rw [List.length_drop, nbs_length] at hql
        have T3 := hide (tst_next T2.out hk)
        clear hk
        go_wp2_with fail
        refine (TS.out _).mono ?_
        rintro r w3 ⟨rfl, b3⟩
        have b4 := below_alloc w3 (.cells #[.int .i64 (n' : Int), .int .i64 (q : Int)] 80)
        have S3 := hide (S2.out.below (btr b3 b4))
        have K3 := hide (heap_new w3 (.cells #[.int .i64 (n' : Int), .int .i64 (q : Int)] 80))
        clear b3 b4
        have hc : (w3.alloc (.cells #[.int .i64 (n' : Int), .int .i64 (q : Int)] 80)).cell? ⟨N + 1, j, none⟩ = some (.int .i64 0) := by
          rw [cell_of S3.out.tl, row_at _ j (by rw [fill_len xs j HXL.out hj]; exact hlt), fill_at xs j HXL.out hlt]
        have hf := frozen_of S3.out.tl j
        have k0 : (w3.alloc (.cells #[.int .i64 (n' : Int), .int .i64 (q : Int)] 80)).cell? ⟨w3.heap.size, 0, none⟩ = some (.int .i64 (n' : Int)) := cell_of K3.out 0
        have k1 : (w3.alloc (.cells #[.int .i64 (n' : Int), .int .i64 (q : Int)] 80)).cell? ⟨w3.heap.size, 1, none⟩ = some (.int .i64 (q : Int)) := cell_of K3.out 1
        have hNw : N + 1 < (w3.alloc (.cells #[.int .i64 (n' : Int), .int .i64 (q : Int)] 80)).heap.size := heap_lt S3.out.tl
        have hNe : N + 1 ≠ w3.heap.size := by
          intro e
          have q1 := S3.out.tl
          rw [e, K3.out] at q1
          simp only [Option.some.injEq, Obj.cells.injEq] at q1
          exact absurd q1.2.1 (by decide)
        have S4 : Hid (DrW w ((w3.alloc (.cells #[.int .i64 (n' : Int), .int .i64 (q : Int)] 80)).setCell ⟨N + 1, j, none⟩ (.int .i64 (n' : Int))) N ((xs ++ [(n' : Int)]) ++ List.replicate (7 - (j + 1)) 0)) := by
          show DrW _ _ _ _
          rw [← fill_set xs j HXL.out hlt]
          exact S3.out.set j (n' : Int)
        go_wp2_with fail
        generalize w3.alloc (.cells #[.int .i64 (n' : Int), .int .i64 (q : Int)] 80) = W3 at *
        go_wp2_with fail
        go_roundw
        case rel => exact ⟨j + 1, xs ++ [(n' : Int)], z' + q, by omega, by go_num, by go_num, T3.out, S4.out⟩
        case measure => simp [intOf]; omega
    · have hlt' : ¬ ((j : Int) < 7) := by omega
      obtain rfl : j = 7 := by omega
      have hh := T2.out
      rw [HT.out] at hh
      simp only [Option.some.injEq, Prod.mk.injEq] at hh
      obtain ⟨rfl, rfl⟩ := hh
      have S3 : Hid (DrW w wr N [t0, t1, t2, t3, t4, t5, (n : Int)]) := S2.out
      clear S2 T2 HXL
      have r0 : wr.cell? ⟨N + 1, 0, none⟩ = some (.int .i64 t0) := cell_of S3.out.tl 0
      have r1 : wr.cell? ⟨N + 1, 1, none⟩ = some (.int .i64 t1) := cell_of S3.out.tl 1
      have r2 : wr.cell? ⟨N + 1, 2, none⟩ = some (.int .i64 t2) := cell_of S3.out.tl 2
      have r3 : wr.cell? ⟨N + 1, 3, none⟩ = some (.int .i64 t3) := cell_of S3.out.tl 3
      have r4 : wr.cell? ⟨N + 1, 4, none⟩ = some (.int .i64 t4) := cell_of S3.out.tl 4
      have r5 : wr.cell? ⟨N + 1, 5, none⟩ = some (.int .i64 t5) := cell_of S3.out.tl 5
      have r6 : wr.cell? ⟨N + 1, 6, none⟩ = some (.int .i64 (n : Int)) := cell_of S3.out.tl 6
      have b5 := below_alloc wr (.cells #[.int .i64 t0, .int .i64 (t1 - 1), .int .i64 (t2 - 1), .int .i64 (t3 - 1), .int .i64 (t4 - 1), .int .i64 (t5 - 1), .bool b1, .bool b2] 23)
      have S5 := hide (S3.out.below b5)
      have E5 := hide (heap_new wr (.cells #[.int .i64 t0, .int .i64 (t1 - 1), .int .i64 (t2 - 1), .int .i64 (t3 - 1), .int .i64 (t4 - 1), .int .i64 (t5 - 1), .bool b1, .bool b2] 23))
      have hNw : N + 1 < wr.heap.size := heap_lt S3.out.tl
      clear b5 S3
      have r6' : (wr.alloc (.cells #[.int .i64 t0, .int .i64 (t1 - 1), .int .i64 (t2 - 1), .int .i64 (t3 - 1), .int .i64 (t4 - 1), .int .i64 (t5 - 1), .bool b1, .bool b2] 23)).cell? ⟨N + 1, 6, none⟩ = some (.int .i64 (n : Int)) := cell_of S5.out.tl 6
      go_wp2_with fail
      generalize wr.alloc (.cells #[.int .i64 t0, .int .i64 (t1 - 1), .int .i64 (t2 - 1), .int .i64 (t3 - 1), .int .i64 (t4 - 1), .int .i64 (t5 - 1), .bool b1, .bool b2] 23) = W5 at S5 E5 r6' ⊢
      generalize wr.heap.size = M at E5 ⊢
      refine (CHK.out _).mono ?_
      rintro r w6 ⟨rfl, b6⟩
      have S6 := hide (S5.out.below b6)
      have E6 := hide (heap_below E5.out b6)
      clear b6 S5 E5 r6' r0 r1 r2 r3 r4 r5 r6
      have u0 : w6.cell? ⟨N, 0, none⟩ = some (.int .i64 0) := cell_of S6.out.rs 0
      have u1 : w6.cell? ⟨N, 1, none⟩ = some (.int .i64 0) := cell_of S6.out.rs 1
      have u2 : w6.cell? ⟨N, 2, none⟩ = some (.int .i64 0) := cell_of S6.out.rs 2
      have u3 : w6.cell? ⟨N, 3, none⟩ = some (.int .i64 0) := cell_of S6.out.rs 3
      have u4 : w6.cell? ⟨N, 4, none⟩ = some (.int .i64 0) := cell_of S6.out.rs 4
      have u5 : w6.cell? ⟨N, 5, none⟩ = some (.int .i64 0) := cell_of S6.out.rs 5
      have u6 : w6.cell? ⟨N, 6, none⟩ = some (.bool false) := cell_of S6.out.rs 6
      have u7 : w6.cell? ⟨N, 7, none⟩ = some (.bool false) := cell_of S6.out.rs 7
      have u8 : w6.cell? ⟨N, 8, none⟩ = some (.int .i64 0) := cell_of S6.out.rs 8
      have f0 := frozen_of S6.out.rs 0
      have f1 := frozen_of S6.out.rs 1
      have f2 := frozen_of S6.out.rs 2
      have f3 := frozen_of S6.out.rs 3
      have f4 := frozen_of S6.out.rs 4
      have f5 := frozen_of S6.out.rs 5
      have f6 := frozen_of S6.out.rs 6
      have f7 := frozen_of S6.out.rs 7
      have f8 := frozen_of S6.out.rs 8
      go_wp2_with fail
      exact bodyPost_ret (results_row2 Try.results15 _ _ _ _ _ rfl rfl (loadVar_got (nin_set S6.out.rs _ _ _ _ _ _ _ _ _) rfl)) rfl ⟨rfl, by rw [HN.out]; exact nin_below S6.out.b (Nat.le_refl _) _ _ _ _ _ _ _ _ _⟩
set_option maxRecDepth 100000 in
set_option maxHeartbeats 6400000 in
theorem rdecC (s : ByteArray) (w : World) (hs : s.size ≤ maxLen) (t0 t1 t2 t3 t4 t5 : Int) (n z : Nat) (b1 b2 : Bool) (h : tst (nbs s) 7 = some ([t0, t1, t2, t3, t4, t5, (n : Int)], z)) (hb1 : ((n : Int).tmod 2 == 1) = b1) (hb2 : ((n : Int).tdiv 2 == 1) = b2) (hn : 3 < n) :
    Calls Try.prog 15 #[.string s] w fun r w' => r = .returned (.tuple #[.agg #[.int .i64 0, .int .i64 0, .int .i64 0, .int .i64 0, .int .i64 0, .int .i64 0, .bool false, .bool false, .int .i64 0], .int .i64 4]) ∧ Below w.heap.size w w' := by
  unfold maxLen at hs
  have bd := tst_bd h
  have h0 := bd t0 (by simp)
  have h1 := bd t1 (by simp)
  have h2 := bd t2 (by simp)
  have h3 := bd t3 (by simp)
  have h4 := bd t4 (by simp)
  have h5 := bd t5 (by simp)
  have h6 := bd (n : Int) (by simp)
  clear bd
  obtain ⟨ra, hra⟩ : ∃ y, (n : Int).tmod 2 = y := ⟨_, rfl⟩
  obtain ⟨qa, hqa⟩ : ∃ y, (n : Int).tdiv 2 = y := ⟨_, rfl⟩
  have era : ra = (n : Int) % 2 := by rw [← hra, Int.tmod_eq_emod_of_nonneg (by omega)]
  have eqa : qa = (n : Int) / 2 := by rw [← hqa, Int.tdiv_eq_ediv_of_nonneg (by omega)]
  have wra : IntKind.i64.wrap ra = ra := by rw [IntKind.wrap_i64]; omega
  have wqa : IntKind.i64.wrap qa = qa := by rw [IntKind.wrap_i64]; omega
  have m1 : (ra == 1) = b1 := by rw [← hb1, hra]
  have m2 : (qa == 1) = b2 := by rw [← hb2, hqa]
  clear era eqa hb1 hb2
  have m3 : decide ((3 : Int) < (n : Int)) = true := decide_eq_true (by omega)
  have S1 := hide (DrW.start w)
  have HT := hide h
  clear h
  have HZ := hide (sfx_zero s)
  simp only [gz, row, List.map_cons, List.map_nil] at S1
  go_enter Try.func15, Try.ntmps15
  go_wp2_with fail
  generalize (w.alloc (.cells #[.int .i64 0, .int .i64 0, .int .i64 0, .int .i64 0, .int .i64 0, .int .i64 0, .bool false, .bool false, .int .i64 0] 36)).alloc (.cells #[.int .i64 0, .int .i64 0, .int .i64 0, .int .i64 0, .int .i64 0, .int .i64 0, .int .i64 0] 56) = W at S1 ⊢
  generalize hN : w.heap.size = N at S1 ⊢
  have HN := hide hN
  clear hN
  go_loopw [5, 6] (fun av i wr => ∃ (j : Nat) (xs : List Int) (z : Nat), j ≤ 7 ∧ av = .int .i64 z ∧ i = .int .i64 j ∧ tst (nbs s) j = some (xs, z) ∧ DrW w wr N (xs ++ List.replicate (7 - j) 0)) (fun _ i _ => 7 - (intOf i).toNat)
  case atStart => exact ⟨0, [], 0, Nat.zero_le _, rfl, rfl, rfl, S1.out⟩
  case round =>
    clear S1
    obtain ⟨j, xs, z', hj, rfl, rfl, ht, s2⟩ := hrel
    have T2 := hide ht
    have S2 := hide s2
    obtain ⟨hxl, _, hzl⟩ := tst_some ht
    rw [nbs_length] at hzl
    have HXL := hide hxl
    clear ht s2 hxl
    by_cases hlt : j < 7
    · have hlt' : (j : Int) < 7 := by omega
      have hz1 : (z' : Int) ≤ (s.size : Int) := by omega
      cases hk : tk (nbs (s.extract z' s.size)) with
      | none =>
        exfalso
        rw [nbs_sfx] at hk
        have := tst_stop T2.out hk 7 hlt
        rw [HT.out] at this
        cases this
      | some p =>
        obtain ⟨n', q⟩ := p
        have TS := hide fun u => rtake_some (s.extract z' s.size) n' q hk u
        rw [nbs_sfx] at hk
        have hql := tk_le hk
        rw [List.length_drop, nbs_length] at hql
        have T3 := hide (tst_next T2.out hk)
        clear hk
        go_wp2_with fail
        refine (TS.out _).mono ?_
        rintro r w3 ⟨rfl, b3⟩
        have b4 := below_alloc w3 (.cells #[.int .i64 (n' : Int), .int .i64 (q : Int)] 80)
        have S3 := hide (S2.out.below (btr b3 b4))
        have K3 := hide (heap_new w3 (.cells #[.int .i64 (n' : Int), .int .i64 (q : Int)] 80))
        clear b3 b4
        have hc : (w3.alloc (.cells #[.int .i64 (n' : Int), .int .i64 (q : Int)] 80)).cell? ⟨N + 1, j, none⟩ = some (.int .i64 0) := by
          rw [cell_of S3.out.tl, row_at _ j (by rw [fill_len xs j HXL.out hj]; exact hlt), fill_at xs j HXL.out hlt]
        have hf := frozen_of S3.out.tl j
        have k0 : (w3.alloc (.cells #[.int .i64 (n' : Int), .int .i64 (q : Int)] 80)).cell? ⟨w3.heap.size, 0, none⟩ = some (.int .i64 (n' : Int)) := cell_of K3.out 0
        have k1 : (w3.alloc (.cells #[.int .i64 (n' : Int), .int .i64 (q : Int)] 80)).cell? ⟨w3.heap.size, 1, none⟩ = some (.int .i64 (q : Int)) := cell_of K3.out 1
        have hNw : N + 1 < (w3.alloc (.cells #[.int .i64 (n' : Int), .int .i64 (q : Int)] 80)).heap.size := heap_lt S3.out.tl
        have hNe : N + 1 ≠ w3.heap.size := by
          intro e
          have q1 := S3.out.tl
          rw [e, K3.out] at q1
          simp only [Option.some.injEq, Obj.cells.injEq] at q1
          exact absurd q1.2.1 (by decide)
        have S4 : Hid (DrW w ((w3.alloc (.cells #[.int .i64 (n' : Int), .int .i64 (q : Int)] 80)).setCell ⟨N + 1, j, none⟩ (.int .i64 (n' : Int))) N ((xs ++ [(n' : Int)]) ++ List.replicate (7 - (j + 1)) 0)) := by
          show DrW _ _ _ _
          rw [← fill_set xs j HXL.out hlt]
          exact S3.out.set j (n' : Int)
        go_wp2_with fail
        generalize w3.alloc (.cells #[.int .i64 (n' : Int), .int .i64 (q : Int)] 80) = W3 at *
        go_wp2_with fail
        go_roundw
        case rel => exact ⟨j + 1, xs ++ [(n' : Int)], z' + q, by omega, by go_num, by go_num, T3.out, S4.out⟩
        case measure => simp [intOf]; omega
    · have hlt' : ¬ ((j : Int) < 7) := by omega
      obtain rfl : j = 7 := by omega
      have hh := T2.out
      rw [HT.out] at hh
      simp only [Option.some.injEq, Prod.mk.injEq] at hh
      obtain ⟨rfl, rfl⟩ := hh
      have S3 : Hid (DrW w wr N [t0, t1, t2, t3, t4, t5, (n : Int)]) := S2.out
      clear S2 T2 HXL
      have r0 : wr.cell? ⟨N + 1, 0, none⟩ = some (.int .i64 t0) := cell_of S3.out.tl 0
      have r1 : wr.cell? ⟨N + 1, 1, none⟩ = some (.int .i64 t1) := cell_of S3.out.tl 1
      have r2 : wr.cell? ⟨N + 1, 2, none⟩ = some (.int .i64 t2) := cell_of S3.out.tl 2
      have r3 : wr.cell? ⟨N + 1, 3, none⟩ = some (.int .i64 t3) := cell_of S3.out.tl 3
      have r4 : wr.cell? ⟨N + 1, 4, none⟩ = some (.int .i64 t4) := cell_of S3.out.tl 4
      have r5 : wr.cell? ⟨N + 1, 5, none⟩ = some (.int .i64 t5) := cell_of S3.out.tl 5
      have r6 : wr.cell? ⟨N + 1, 6, none⟩ = some (.int .i64 (n : Int)) := cell_of S3.out.tl 6
      have b5 := below_alloc wr (.cells #[.int .i64 t0, .int .i64 (t1 - 1), .int .i64 (t2 - 1), .int .i64 (t3 - 1), .int .i64 (t4 - 1), .int .i64 (t5 - 1), .bool b1, .bool b2] 23)
      have S5 := hide (S3.out.below b5)
      have E5 := hide (heap_new wr (.cells #[.int .i64 t0, .int .i64 (t1 - 1), .int .i64 (t2 - 1), .int .i64 (t3 - 1), .int .i64 (t4 - 1), .int .i64 (t5 - 1), .bool b1, .bool b2] 23))
      have hNw : N + 1 < wr.heap.size := heap_lt S3.out.tl
      clear b5 S3
      have r6' : (wr.alloc (.cells #[.int .i64 t0, .int .i64 (t1 - 1), .int .i64 (t2 - 1), .int .i64 (t3 - 1), .int .i64 (t4 - 1), .int .i64 (t5 - 1), .bool b1, .bool b2] 23)).cell? ⟨N + 1, 6, none⟩ = some (.int .i64 (n : Int)) := cell_of S5.out.tl 6
      have u0 : (wr.alloc (.cells #[.int .i64 t0, .int .i64 (t1 - 1), .int .i64 (t2 - 1), .int .i64 (t3 - 1), .int .i64 (t4 - 1), .int .i64 (t5 - 1), .bool b1, .bool b2] 23)).cell? ⟨N, 0, none⟩ = some (.int .i64 0) := cell_of S5.out.rs 0
      have u1 : (wr.alloc (.cells #[.int .i64 t0, .int .i64 (t1 - 1), .int .i64 (t2 - 1), .int .i64 (t3 - 1), .int .i64 (t4 - 1), .int .i64 (t5 - 1), .bool b1, .bool b2] 23)).cell? ⟨N, 1, none⟩ = some (.int .i64 0) := cell_of S5.out.rs 1
      have u2 : (wr.alloc (.cells #[.int .i64 t0, .int .i64 (t1 - 1), .int .i64 (t2 - 1), .int .i64 (t3 - 1), .int .i64 (t4 - 1), .int .i64 (t5 - 1), .bool b1, .bool b2] 23)).cell? ⟨N, 2, none⟩ = some (.int .i64 0) := cell_of S5.out.rs 2
      have u3 : (wr.alloc (.cells #[.int .i64 t0, .int .i64 (t1 - 1), .int .i64 (t2 - 1), .int .i64 (t3 - 1), .int .i64 (t4 - 1), .int .i64 (t5 - 1), .bool b1, .bool b2] 23)).cell? ⟨N, 3, none⟩ = some (.int .i64 0) := cell_of S5.out.rs 3
      have u4 : (wr.alloc (.cells #[.int .i64 t0, .int .i64 (t1 - 1), .int .i64 (t2 - 1), .int .i64 (t3 - 1), .int .i64 (t4 - 1), .int .i64 (t5 - 1), .bool b1, .bool b2] 23)).cell? ⟨N, 4, none⟩ = some (.int .i64 0) := cell_of S5.out.rs 4
      have u5 : (wr.alloc (.cells #[.int .i64 t0, .int .i64 (t1 - 1), .int .i64 (t2 - 1), .int .i64 (t3 - 1), .int .i64 (t4 - 1), .int .i64 (t5 - 1), .bool b1, .bool b2] 23)).cell? ⟨N, 5, none⟩ = some (.int .i64 0) := cell_of S5.out.rs 5
      have u6 : (wr.alloc (.cells #[.int .i64 t0, .int .i64 (t1 - 1), .int .i64 (t2 - 1), .int .i64 (t3 - 1), .int .i64 (t4 - 1), .int .i64 (t5 - 1), .bool b1, .bool b2] 23)).cell? ⟨N, 6, none⟩ = some (.bool false) := cell_of S5.out.rs 6
      have u7 : (wr.alloc (.cells #[.int .i64 t0, .int .i64 (t1 - 1), .int .i64 (t2 - 1), .int .i64 (t3 - 1), .int .i64 (t4 - 1), .int .i64 (t5 - 1), .bool b1, .bool b2] 23)).cell? ⟨N, 7, none⟩ = some (.bool false) := cell_of S5.out.rs 7
      have u8 : (wr.alloc (.cells #[.int .i64 t0, .int .i64 (t1 - 1), .int .i64 (t2 - 1), .int .i64 (t3 - 1), .int .i64 (t4 - 1), .int .i64 (t5 - 1), .bool b1, .bool b2] 23)).cell? ⟨N, 8, none⟩ = some (.int .i64 0) := cell_of S5.out.rs 8
      have f0 := frozen_of S5.out.rs 0
      have f1 := frozen_of S5.out.rs 1
      have f2 := frozen_of S5.out.rs 2
      have f3 := frozen_of S5.out.rs 3
      have f4 := frozen_of S5.out.rs 4
      have f5 := frozen_of S5.out.rs 5
      have f6 := frozen_of S5.out.rs 6
      have f7 := frozen_of S5.out.rs 7
      have f8 := frozen_of S5.out.rs 8
      go_wp2_with fail
      exact bodyPost_ret (results_row2 Try.results15 _ _ _ _ _ rfl rfl (loadVar_got (nin_set S5.out.rs _ _ _ _ _ _ _ _ _) rfl)) rfl ⟨rfl, by rw [HN.out]; exact nin_below S5.out.b (Nat.le_refl _) _ _ _ _ _ _ _ _ _⟩
def gotc (e : Ev) (z : Nat) : Array Value := #[.int .i64 e.k, .int .i64 e.g, .int .i64 e.c, .int .i64 e.a, .int .i64 e.v, .int .i64 e.m, .bool e.s, .bool e.o, .int .i64 (z : Int)]
theorem rdecode_none (s : ByteArray) (w : World) (hs : s.size ≤ maxLen) (h : dec (nbs s) = none) :
    Calls Try.prog 15 #[.string s] w fun r w' => r = .returned (.tuple #[.agg gz, .int .i64 4]) ∧ Below w.heap.size w w' := by
  cases ht : tst (nbs s) 7 with
  | none => exact rdecode_none0 s w hs ht
  | some p =>
    obtain ⟨xs, z⟩ := p
    obtain ⟨t0, t1, t2, t3, t4, t5, t6, rfl⟩ := seven (tst_some ht).1
    obtain ⟨n, rfl⟩ := Int.eq_ofNat_of_zero_le (tst_bd ht t6 (by simp)).1
    unfold dec at h
    rw [ht] at h
    have h' : ¬ ((n : Int) ≤ 3 ∧ chk (evn t0 t1 t2 t3 t4 t5 n) = 0) := by
      intro q
      have e : evl [t0, t1, t2, t3, t4, t5, (n : Int)] = evn t0 t1 t2 t3 t4 t5 n := rfl
      simp only [e] at h
      rw [if_pos (show nth [t0, t1, t2, t3, t4, t5, (n : Int)] 6 ≤ 3 ∧ _ from q)] at h
      cases h
    by_cases hn : n ≤ 3
    · exact rdecB s w hs t0 t1 t2 t3 t4 t5 n z _ _ _ ht rfl rfl rfl hn (by simp; exact fun q => h' ⟨by omega, q⟩)
    · exact rdecC s w hs t0 t1 t2 t3 t4 t5 n z _ _ ht rfl rfl (by omega)
theorem rdecode_some (s : ByteArray) (w : World) (hs : s.size ≤ maxLen) (e : Ev) (z : Nat) (h : dec (nbs s) = some (e, z)) :
    Calls Try.prog 15 #[.string s] w fun r w' => r = .returned (.tuple #[.agg (gotc e z), .int .i64 0]) ∧ Below w.heap.size w w' := by
  cases ht : tst (nbs s) 7 with
  | none => unfold dec at h; rw [ht] at h; cases h
  | some p =>
    obtain ⟨xs, z'⟩ := p
    obtain ⟨t0, t1, t2, t3, t4, t5, t6, rfl⟩ := seven (tst_some ht).1
    obtain ⟨n, rfl⟩ := Int.eq_ofNat_of_zero_le (tst_bd ht t6 (by simp)).1
    unfold dec at h
    rw [ht] at h
    have e1 : evl [t0, t1, t2, t3, t4, t5, (n : Int)] = evn t0 t1 t2 t3 t4 t5 n := rfl
    simp only [e1] at h
    split at h
    · rename_i q
      cases h
      have q1 : (n : Int) ≤ 3 := q.1
      exact rdecA s w hs t0 t1 t2 t3 t4 t5 n z _ _ _ ht rfl rfl rfl (by omega) q.2
    · cases h
end En
end Go.Proofs.Ytlcaelfkgillmaa
