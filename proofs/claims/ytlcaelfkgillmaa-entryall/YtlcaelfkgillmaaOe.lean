/- The reference's Decode, over this seat's program. -/
import Derived.Test.YtlcaelfkgillmaaNu
import Derived.Test.YtlcaelfkgillmaaNl
namespace Go.Proofs.Ytlcaelfkgillmaa
open Go.ChangeShapes Go.WideShapes Go.ChangeAt Go.RowKit
namespace En
open Ba Re

theorem size_got : (Try.prog.info? 36).map (·.size) = some 9 := by kernel_rfl
theorem loadVar_got {w : World} {b : Nat} {c : Array Value} {t : TypeId} (h : w.heap[b]? = some (.cells c t (0, 0))) (hc : c.size = 9) : (loadVar 36 ⟨b, 0, none⟩).run Try.prog w = .ok (.agg c) w :=
  run_loadVar_row w b t _ _ _ _ h Try.underlying36 rfl (by rw [size_got, hc])
def gz : Array Value := #[.int .i64 0, .int .i64 0, .int .i64 0, .int .i64 0, .int .i64 0, .int .i64 0, .bool false, .bool false, .int .i64 0]
theorem nin_set {w : World} {b : Nat} {t : TypeId} (h : w.heap[b]? = some (.cells gz t (0, 0))) (u0 u1 u2 u3 u4 u5 u6 u7 u8 : Value) : ((((((((((w.setCell ⟨b, 0, none⟩ (u0)).setCell ⟨b, 1, none⟩ (u1)).setCell ⟨b, 2, none⟩ (u2)).setCell ⟨b, 3, none⟩ (u3)).setCell ⟨b, 4, none⟩ (u4)).setCell ⟨b, 5, none⟩ (u5)).setCell ⟨b, 6, none⟩ (u6)).setCell ⟨b, 7, none⟩ (u7)).setCell ⟨b, 8, none⟩ (u8))).heap[b]? = some (.cells #[u0, u1, u2, u3, u4, u5, u6, u7, u8] t (0, 0)) := by
  have q := (Ba.heap_setCell_same (i := 8) (Ba.heap_setCell_same (i := 7) (Ba.heap_setCell_same (i := 6) (Ba.heap_setCell_same (i := 5) (Ba.heap_setCell_same (i := 4) (Ba.heap_setCell_same (i := 3) (Ba.heap_setCell_same (i := 2) (Ba.heap_setCell_same (i := 1) (Ba.heap_setCell_same (i := 0) h u0) u1) u2) u3) u4) u5) u6) u7) u8)
  simp only [gz, List.setIfInBounds_toArray, List.set_cons_zero, List.set_cons_succ] at q
  exact q
theorem nin_below {n : Nat} {w v : World} {b : Nat} (h : Below n w v) (hb : n ≤ b) (u0 u1 u2 u3 u4 u5 u6 u7 u8 : Value) : Below n w ((((((((((v.setCell ⟨b, 0, none⟩ (u0)).setCell ⟨b, 1, none⟩ (u1)).setCell ⟨b, 2, none⟩ (u2)).setCell ⟨b, 3, none⟩ (u3)).setCell ⟨b, 4, none⟩ (u4)).setCell ⟨b, 5, none⟩ (u5)).setCell ⟨b, 6, none⟩ (u6)).setCell ⟨b, 7, none⟩ (u7)).setCell ⟨b, 8, none⟩ (u8))) :=
  (((((((((h.setCell (p := ⟨b, 0, none⟩) hb u0).setCell (p := ⟨b, 1, none⟩) hb u1).setCell (p := ⟨b, 2, none⟩) hb u2).setCell (p := ⟨b, 3, none⟩) hb u3).setCell (p := ⟨b, 4, none⟩) hb u4).setCell (p := ⟨b, 5, none⟩) hb u5).setCell (p := ⟨b, 6, none⟩) hb u6).setCell (p := ⟨b, 7, none⟩) hb u7).setCell (p := ⟨b, 8, none⟩) hb u8)
structure DrW (w u : World) (N : Nat) (r : List Int) : Prop where
  rs : u.heap[N]? = some (.cells gz 36 (0, 0))
  tl : u.heap[N + 1]? = some (.cells (row r) 56 (0, 0))
  b : Below N w u
theorem DrW.below {w u v : World} {N : Nat} {r : List Int} (h : DrW w u N r) (hb : Below u.heap.size u v) : DrW w v N r :=
  ⟨heap_below h.rs hb, heap_below h.tl hb, h.b.trans (hb.mono (by have := heap_lt h.rs; omega))⟩
theorem DrW.set {w u : World} {N : Nat} {r : List Int} (h : DrW w u N r) (i : Nat) (x : Int) : DrW w (u.setCell ⟨N + 1, i, none⟩ (.int .i64 x)) N (r.set i x) := by
  have K := (KB.refl (N + 1) u).setCell i (.int .i64 x)
  exact ⟨K.heap h.rs (by omega), (Ba.heap_setCell_same h.tl _).trans (by rw [row_set]), h.b.setCell (p := ⟨N + 1, i, none⟩) (by show N ≤ N + 1; omega) _⟩
theorem DrW.start (w : World) : DrW w ((w.alloc (.cells gz 36)).alloc (.cells (row [0, 0, 0, 0, 0, 0, 0]) 56)) w.heap.size [0, 0, 0, 0, 0, 0, 0] :=
  ⟨heap_below (heap_new _ _) (below_alloc _ _), heap_new2 _ _ _, btr (below_alloc _ _) (below_alloc _ _)⟩
set_option maxRecDepth 100000 in
set_option maxHeartbeats 6400000 in
theorem rdecode_none0 (s : ByteArray) (w : World) (hs : s.size ≤ maxLen) (h : tst (nbs s) 7 = none) :
    Calls Try.prog 15 #[.string s] w fun r w' => r = .returned (.tuple #[.agg gz, .int .i64 4]) ∧ Below w.heap.size w w' := by
  unfold maxLen at hs
  have S1 := hide (DrW.start w)
  have HT := hide h
  clear h
  have HZ := hide (sfx_zero s)
  simp only [gz, row, List.map_cons, List.map_nil] at S1
  go_enter Try.func15, Try.ntmps15
  go_wp2_with fail
  generalize (w.alloc (.cells #[.int .i64 0, .int .i64 0, .int .i64 0, .int .i64 0, .int .i64 0, .int .i64 0, .bool false, .bool false, .int .i64 0] 36)).alloc (.cells #[.int .i64 0, .int .i64 0, .int .i64 0, .int .i64 0, .int .i64 0, .int .i64 0, .int .i64 0] 56) = W at S1 ⊢
  generalize hN : w.heap.size = N at S1 ⊢
  have HN := hide hN
  clear hN
  go_loopw [5, 6] (fun av i wr => ∃ (j : Nat) (xs : List Int) (z : Nat), j ≤ 7 ∧ av = .int .i64 z ∧ i = .int .i64 j ∧ tst (nbs s) j = some (xs, z) ∧ DrW w wr N (xs ++ List.replicate (7 - j) 0)) (fun _ i _ => 7 - (intOf i).toNat)
  case atStart => exact ⟨0, [], 0, Nat.zero_le _, rfl, rfl, rfl, S1.out⟩
  case round =>
    clear S1
    obtain ⟨j, xs, z', hj, rfl, rfl, ht, s2⟩ := hrel
    have T2 := hide ht
    have S2 := hide s2
    obtain ⟨hxl, _, hzl⟩ := tst_some ht
    rw [nbs_length] at hzl
    have HXL := hide hxl
    clear ht s2 hxl
    by_cases hlt : j < 7
    · have hlt' : (j : Int) < 7 := by omega
      have hz1 : (z' : Int) ≤ (s.size : Int) := by omega
      cases hk : tk (nbs (s.extract z' s.size)) with
      | none =>
        have TN := hide fun u => rtake_none (s.extract z' s.size) hk u
        clear hk
        go_wp2_with fail
        refine (TN.out _).mono ?_
        rintro r w3 ⟨rfl, b3⟩
        have b4 := below_alloc w3 (.cells #[.int .i64 0, .int .i64 0] 80)
        have S3 := hide (S2.out.below (btr b3 b4))
        clear b3 b4
        have u0 : (w3.alloc (.cells #[.int .i64 0, .int .i64 0] 80)).cell? ⟨N, 0, none⟩ = some (.int .i64 0) := cell_of S3.out.rs 0
        have u1 : (w3.alloc (.cells #[.int .i64 0, .int .i64 0] 80)).cell? ⟨N, 1, none⟩ = some (.int .i64 0) := cell_of S3.out.rs 1
        have u2 : (w3.alloc (.cells #[.int .i64 0, .int .i64 0] 80)).cell? ⟨N, 2, none⟩ = some (.int .i64 0) := cell_of S3.out.rs 2
        have u3 : (w3.alloc (.cells #[.int .i64 0, .int .i64 0] 80)).cell? ⟨N, 3, none⟩ = some (.int .i64 0) := cell_of S3.out.rs 3
        have u4 : (w3.alloc (.cells #[.int .i64 0, .int .i64 0] 80)).cell? ⟨N, 4, none⟩ = some (.int .i64 0) := cell_of S3.out.rs 4
        have u5 : (w3.alloc (.cells #[.int .i64 0, .int .i64 0] 80)).cell? ⟨N, 5, none⟩ = some (.int .i64 0) := cell_of S3.out.rs 5
        have u6 : (w3.alloc (.cells #[.int .i64 0, .int .i64 0] 80)).cell? ⟨N, 6, none⟩ = some (.bool false) := cell_of S3.out.rs 6
        have u7 : (w3.alloc (.cells #[.int .i64 0, .int .i64 0] 80)).cell? ⟨N, 7, none⟩ = some (.bool false) := cell_of S3.out.rs 7
        have u8 : (w3.alloc (.cells #[.int .i64 0, .int .i64 0] 80)).cell? ⟨N, 8, none⟩ = some (.int .i64 0) := cell_of S3.out.rs 8
        have f0 := frozen_of S3.out.rs 0
        have f1 := frozen_of S3.out.rs 1
        have f2 := frozen_of S3.out.rs 2
        have f3 := frozen_of S3.out.rs 3
        have f4 := frozen_of S3.out.rs 4
        have f5 := frozen_of S3.out.rs 5
        have f6 := frozen_of S3.out.rs 6
        have f7 := frozen_of S3.out.rs 7
        have f8 := frozen_of S3.out.rs 8
        go_wp2_with fail
        exact bodyPost_ret (results_row2 Try.results15 _ _ _ _ _ rfl rfl (loadVar_got (nin_set S3.out.rs _ _ _ _ _ _ _ _ _) rfl)) rfl ⟨rfl, by rw [HN.out]; exact nin_below S3.out.b (Nat.le_refl _) _ _ _ _ _ _ _ _ _⟩
      | some p =>
        obtain ⟨n', q⟩ := p
        have TS := hide fun u => rtake_some (s.extract z' s.size) n' q hk u
        rw [nbs_sfx] at hk
        have hql := tk_le hk
        rw [List.length_drop, nbs_length] at hql
        have T3 := hide (tst_next T2.out hk)
        clear hk
        go_wp2_with fail
        refine (TS.out _).mono ?_
        rintro r w3 ⟨rfl, b3⟩
        have b4 := below_alloc w3 (.cells #[.int .i64 (n' : Int), .int .i64 (q : Int)] 80)
        have S3 := hide (S2.out.below (btr b3 b4))
        have K3 := hide (heap_new w3 (.cells #[.int .i64 (n' : Int), .int .i64 (q : Int)] 80))
        clear b3 b4
        have hc : (w3.alloc (.cells #[.int .i64 (n' : Int), .int .i64 (q : Int)] 80)).cell? ⟨N + 1, j, none⟩ = some (.int .i64 0) := by
          rw [cell_of S3.out.tl, row_at _ j (by rw [fill_len xs j HXL.out hj]; exact hlt), fill_at xs j HXL.out hlt]
        have hf := frozen_of S3.out.tl j
        have k0 : (w3.alloc (.cells #[.int .i64 (n' : Int), .int .i64 (q : Int)] 80)).cell? ⟨w3.heap.size, 0, none⟩ = some (.int .i64 (n' : Int)) := cell_of K3.out 0
        have k1 : (w3.alloc (.cells #[.int .i64 (n' : Int), .int .i64 (q : Int)] 80)).cell? ⟨w3.heap.size, 1, none⟩ = some (.int .i64 (q : Int)) := cell_of K3.out 1
        have hNw : N + 1 < (w3.alloc (.cells #[.int .i64 (n' : Int), .int .i64 (q : Int)] 80)).heap.size := heap_lt S3.out.tl
        have hNe : N + 1 ≠ w3.heap.size := by
          intro e
          have q1 := S3.out.tl
          rw [e, K3.out] at q1
          simp only [Option.some.injEq, Obj.cells.injEq] at q1
          exact absurd q1.2.1 (by decide)
        have S4 : Hid (DrW w ((w3.alloc (.cells #[.int .i64 (n' : Int), .int .i64 (q : Int)] 80)).setCell ⟨N + 1, j, none⟩ (.int .i64 (n' : Int))) N ((xs ++ [(n' : Int)]) ++ List.replicate (7 - (j + 1)) 0)) := by
          show DrW _ _ _ _
          rw [← fill_set xs j HXL.out hlt]
          exact S3.out.set j (n' : Int)
        go_wp2_with fail
        generalize w3.alloc (.cells #[.int .i64 (n' : Int), .int .i64 (q : Int)] 80) = W3 at *
        go_wp2_with fail
        go_roundw
        case rel => exact ⟨j + 1, xs ++ [(n' : Int)], z' + q, by omega, by go_num, by go_num, T3.out, S4.out⟩
        case measure => simp [intOf]; omega
    · exfalso
      have : j = 7 := by omega
      have h := T2.out
      rw [this, HT.out] at h
      cases h
end En
end Go.Proofs.Ytlcaelfkgillmaa
