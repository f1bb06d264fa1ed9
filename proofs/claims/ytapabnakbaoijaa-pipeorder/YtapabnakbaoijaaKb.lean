/- The laws' own ref(), got(), same(), over this seat's program. -/
import Derived.Test.YtapabnakbaoijaaYj
import Derived.Test.YtapabnakbaoijaaKa
namespace Go.Proofs.Ytapabnakbaoijaa
open Go.ChangeShapes Go.WideShapes Go.ChangeAt Go.RowKit
namespace Rp
open Ba Pe _root_.Go.Proofs.Ytapabnakbaoijaa.Pi

theorem size_rw : (Try.prog.info? 66).map (·.size) = some 3 := by kernel_rfl
theorem loadVar_rw {w : World} {b : Nat} {c : Array Value} {t : TypeId} (h : w.heap[b]? = some (.cells c t (0, 0))) (hc : c.size = 3) : (loadVar 66 ⟨b, 0, none⟩).run Try.prog w = .ok (.agg c) w :=
  run_loadVar_row w b t _ _ _ _ h Try.underlying66 rfl (by rw [size_rw, hc])
theorem heap_new2 (w : World) (a b : Obj) : ((w.alloc a).alloc b).heap[w.heap.size + 1]? = some b := by
  have := heap_new (w.alloc a) b
  rw [World.size_alloc] at this
  exact this
theorem ref_any (x : Wt) (w : World) :
    Calls Try.prog 31 #[wv x] w fun r w' => r = .returned (wv x) ∧ Below w.heap.size w w' := by
  unfold wv
  go_enter Try.func31, Try.ntmps31
  go_wp2_with fail
  refine bodyPost_ret (results_row1 Try.results31 _ _ _ _ rfl (loadVar_rw (heap_new2 _ _ _) rfl)) rfl ⟨rfl, btr (below_alloc _ _) (below_alloc _ _)⟩
set_option maxRecDepth 100000 in
set_option maxHeartbeats 3200000 in
theorem got_any (g : Gt) (w : World) :
    Calls Try.prog 28 #[gv g] w fun r w' => r = .returned (gv g) ∧ Below w.heap.size w w' := by
  obtain ⟨rd, ok, wk, v, ⟨mg, mc, mv⟩⟩ := g
  have b1 := below_alloc w (.cells #[.bool rd, .bool ok, .bool wk, .int .i64 v, .int .i64 mg, .int .i64 mc, .int .i64 mv] 49)
  have b2 := below_alloc (w.alloc (.cells #[.bool rd, .bool ok, .bool wk, .int .i64 v, .int .i64 mg, .int .i64 mc, .int .i64 mv] 49)) (.cells #[.bool false, .bool false, .bool false, .int .i64 0, .int .i64 0, .int .i64 0, .int .i64 0] 68)
  have BB := hide (btr b1 b2)
  have X2 := hide (heap_below (heap_new w (.cells #[.bool rd, .bool ok, .bool wk, .int .i64 v, .int .i64 mg, .int .i64 mc, .int .i64 mv] 49)) b2)
  have Z2 := hide (heap_new2 w (.cells #[.bool rd, .bool ok, .bool wk, .int .i64 v, .int .i64 mg, .int .i64 mc, .int .i64 mv] 49) (.cells #[.bool false, .bool false, .bool false, .int .i64 0, .int .i64 0, .int .i64 0, .int .i64 0] 68))
  clear b1 b2
  unfold gv
  go_enter Try.func28, Try.ntmps28
  go_wp2_with fail
  generalize (w.alloc (.cells #[.bool rd, .bool ok, .bool wk, .int .i64 v, .int .i64 mg, .int .i64 mc, .int .i64 mv] 49)).alloc (.cells #[.bool false, .bool false, .bool false, .int .i64 0, .int .i64 0, .int .i64 0, .int .i64 0] 68) = W2 at BB X2 Z2 ⊢
  have x0 : W2.cell? ⟨w.heap.size, 0, none⟩ = some (.bool rd) := cell_of X2.out 0
  have x1 : W2.cell? ⟨w.heap.size, 1, none⟩ = some (.bool ok) := cell_of X2.out 1
  have x2 : W2.cell? ⟨w.heap.size, 2, none⟩ = some (.bool wk) := cell_of X2.out 2
  have x3 : W2.cell? ⟨w.heap.size, 3, none⟩ = some (.int .i64 v) := cell_of X2.out 3
  have x4 : W2.cell? ⟨w.heap.size, 4, none⟩ = some (.int .i64 mg) := cell_of X2.out 4
  have x5 : W2.cell? ⟨w.heap.size, 5, none⟩ = some (.int .i64 mc) := cell_of X2.out 5
  have x6 : W2.cell? ⟨w.heap.size, 6, none⟩ = some (.int .i64 mv) := cell_of X2.out 6
  have RF := hide fun u => ref_any ⟨mg, mc, mv⟩ u
  unfold wv at RF
  go_region_held3 (fun w' => w'.cell? ⟨w.heap.size, 0, none⟩ = some (.bool rd) ∧ w'.cell? ⟨w.heap.size, 1, none⟩ = some (.bool ok) ∧ w'.cell? ⟨w.heap.size, 2, none⟩ = some (.bool wk) ∧ w'.cell? ⟨w.heap.size, 3, none⟩ = some (.int .i64 v) ∧ w'.cell? ⟨w.heap.size, 4, none⟩ = some (.int .i64 mg) ∧ w'.cell? ⟨w.heap.size, 5, none⟩ = some (.int .i64 mc) ∧ w'.cell? ⟨w.heap.size, 6, none⟩ = some (.int .i64 mv))
    (first
      | go_keep
      | (go_split_ands
         refine ⟨?_, ?_, ?_, ?_, ?_, ?_, ?_⟩ <;> (refine cellB ?_ c5; assumption)))
    ((go_at_call 31; refine (RF.out _).mono ?_; rintro r w5 ⟨rfl, c5⟩; have Z5 := hide (heap_below (heap_below Z2.out (bdrew1 _)) c5); have z0 := (cell_of Z5.out 0).trans (show _ = some (Value.bool false) from rfl); have zf0 := frozen_of Z5.out 0; have z1 := (cell_of Z5.out 1).trans (show _ = some (Value.bool false) from rfl); have zf1 := frozen_of Z5.out 1; have z2 := (cell_of Z5.out 2).trans (show _ = some (Value.bool false) from rfl); have zf2 := frozen_of Z5.out 2; have z3 := (cell_of Z5.out 3).trans (show _ = some (.int .i64 0) from rfl); have zf3 := frozen_of Z5.out 3; have z4 := (cell_of Z5.out 4).trans (show _ = some (.int .i64 0) from rfl); have zf4 := frozen_of Z5.out 4; have z5 := (cell_of Z5.out 5).trans (show _ = some (.int .i64 0) from rfl); have zf5 := frozen_of Z5.out 5; have z6 := (cell_of Z5.out 6).trans (show _ = some (.int .i64 0) from rfl); have zf6 := frozen_of Z5.out 6))
  go_wp2_with fail
  exact bodyPost_ret (results_row1 Try.results28 _ _ _ _ rfl (loadVar_rgot (got_set Z5.out _ _ _ _ _ _ _) rfl)) rfl ⟨rfl, (((((((btr (btr BB.out (bdrew1 _)) c5).setCell (Nat.le_succ _) _).setCell (Nat.le_succ _) _).setCell (Nat.le_succ _) _).setCell (Nat.le_succ _) _).setCell (Nat.le_succ _) _).setCell (Nat.le_succ _) _).setCell (Nat.le_succ _) _⟩
set_option maxRecDepth 100000 in
set_option maxHeartbeats 1600000 in
theorem same_any (oa ob : Option Addr) (l : List Wt) (c d : Nat) (w : World) (hA : WAt w oa l) (hB : WAt w ob l) (hl : l.length ≤ 1024) :
    Calls Try.prog 18 #[.slice oa l.length c, .slice ob l.length d] w fun r w' => r = .returned (.bool true) ∧ Below w.heap.size w w' := by
  have HA := hide hA
  have HE := hide hB
  clear hA hB
  go_enter Try.func18, Try.ntmps18
  go_wp2_with fail
  go_loopw [13] (fun i wr => ∃ k : Nat, k ≤ l.length ∧ i = .int .i64 k ∧ Below w.heap.size w wr) (fun i _ => l.length - (intOf i).toNat)
  case atStart => exact ⟨0, Nat.zero_le _, rfl, Below.refl _ _⟩
  case round =>
    obtain ⟨k, hk, rfl, hb⟩ := hrel
    by_cases hlt : k < l.length
    · have hlt' : (k : Int) < (l.length : Int) := by omega
      obtain ⟨x, hx⟩ : ∃ x, l[k]? = some x := ⟨_, List.getElem?_eq_getElem hlt⟩
      obtain ⟨b, off, rfl, q0, q1, q2⟩ := HA.out.below hb k x hx
      obtain ⟨b', off', rfl, p0, p1, p2⟩ := HE.out.below hb k x hx
      have HB := hide hb
      clear hb hx
      have RF := hide fun u => ref_any x u
      unfold wv at RF
      go_wp2_with fail
      go_region_held3 (fun w' => w'.cell? ⟨b, off + k * 3, none⟩ = some (.int .i64 x.g) ∧ w'.cell? ⟨b, off + k * 3 + 1, none⟩ = some (.int .i64 x.c) ∧ w'.cell? ⟨b, off + k * 3 + 2, none⟩ = some (.int .i64 x.v) ∧ w'.cell? ⟨b', off' + k * 3, none⟩ = some (.int .i64 x.g) ∧ w'.cell? ⟨b', off' + k * 3 + 1, none⟩ = some (.int .i64 x.c) ∧ w'.cell? ⟨b', off' + k * 3 + 2, none⟩ = some (.int .i64 x.v))
        (first
          | go_keep
          | (go_split_ands
             refine ⟨?_, ?_, ?_, ?_, ?_, ?_⟩ <;> (refine cellB ?_ c1; assumption)))
        (first
          | (go_at_call 31; refine (RF.out _).mono ?_; rintro r u1 ⟨rfl, c1⟩))
      have B1 := hide (btr HB.out (btr (bdrew1 _) c1))
      clear c1
      go_wp2_with fail
      go_roundw
      case rel => exact ⟨k + 1, by omega, by go_num, B1.out⟩
      case measure => simp [intOf]; omega
    · have hlt' : ¬ ((k : Int) < (l.length : Int)) := by omega
      have HB := hide hb
      clear hb
      go_wp2_with fail
      go_ret
      exact ⟨rfl, HB.out⟩
end Rp
end Go.Proofs.Ytapabnakbaoijaa
