/- Package entry: Decode, over this seat's program. -/
import Derived.Test.YtlcaelfkgillmaaNh
import Derived.Test.YtlcaelfkgillmaaNz
namespace Go.Proofs.Ytlcaelfkgillmaa
open Go.ChangeShapes Go.WideShapes Go.ChangeAt Go.RowKit
namespace En
open Ba Re

/-- the event with which bytes begin, and how many bytes it has -/
def evl (l : List Int) : Ev := evn (nth l 0) (nth l 1) (nth l 2) (nth l 3) (nth l 4) (nth l 5) (nth l 6).toNat
def dec (L : List Nat) : Option (Ev × Nat) := match tst L 7 with
  | none => none
  | some (xs, z) => if nth xs 6 ≤ 3 ∧ chk (evl xs) = 0 then some (evl xs, z) else none
/-- what Decode holds in memory: the result, the numbers -/
structure DeW (w u : World) (N : Nat) (r : List Int) : Prop where
  rs : u.heap[N]? = some (.cells (evc e0) 23 (0, 0))
  tl : u.heap[N + 1]? = some (.cells (row r) 57 (0, 0))
  b : Below N w u
theorem DeW.below {w u v : World} {N : Nat} {r : List Int} (h : DeW w u N r) (hb : Below u.heap.size u v) : DeW w v N r :=
  ⟨heap_below h.rs hb, heap_below h.tl hb, h.b.trans (hb.mono (by have := heap_lt h.rs; omega))⟩
theorem DeW.set {w u : World} {N : Nat} {r : List Int} (h : DeW w u N r) (i : Nat) (x : Int) : DeW w (u.setCell ⟨N + 1, i, none⟩ (.int .i64 x)) N (r.set i x) := by
  have K := (KB.refl (N + 1) u).setCell i (.int .i64 x)
  exact ⟨K.heap h.rs (by omega), (Ba.heap_setCell_same h.tl _).trans (by rw [row_set]), h.b.setCell (p := ⟨N + 1, i, none⟩) (by show N ≤ N + 1; omega) _⟩
theorem DeW.start (w : World) : DeW w ((w.alloc (.cells (evc e0) 23)).alloc (.cells (row [0, 0, 0, 0, 0, 0, 0]) 57)) w.heap.size [0, 0, 0, 0, 0, 0, 0] :=
  ⟨heap_below (heap_new _ _) (below_alloc _ _), heap_new2 _ _ _, btr (below_alloc _ _) (below_alloc _ _)⟩
theorem fill_set (xs : List Int) (j : Nat) (h : xs.length = j) (hj : j < 7) (x : Int) : (xs ++ List.replicate (7 - j) 0).set j x = (xs ++ [x]) ++ List.replicate (7 - (j + 1)) 0 := by
  rw [List.set_append_right _ _ (by omega), h, Nat.sub_self, show 7 - j = (7 - (j + 1)) + 1 by omega, List.replicate_succ]
  simp
theorem fill_len (xs : List Int) (j : Nat) (h : xs.length = j) (hj : j ≤ 7) : (xs ++ List.replicate (7 - j) 0).length = 7 := by simp; omega
theorem fill_at (xs : List Int) (j : Nat) (h : xs.length = j) (hj : j < 7) : nth (xs ++ List.replicate (7 - j) 0) j = 0 := by
  subst h
  unfold nth
  rw [List.getD_eq_getElem?_getD, List.getElem?_append_right (Nat.le_refl _), Nat.sub_self, List.getElem?_replicate, if_pos (by omega)]
  rfl
theorem results_row3 {fn : Func} {p u q : Tmp} {ty : TypeId} (h : fn.results = #[.cell p ty, .tmp u, .tmp q]) (tmps : Array Value) (w : World) (g : Nat) (cs : Array Value) (v x : Value)
    (hp : tmps.getD p undef = .pointer (some ⟨g, 0, none⟩)) (hv : tmps.getD u undef = v) (hx : tmps.getD q undef = x) (hl : (loadVar ty ⟨g, 0, none⟩).run Try.prog w = .ok (.agg cs) w) :
    (results fn tmps).run Try.prog w = .ok (.tuple #[.agg cs, v, x]) w := by
  subst hv hx
  have hp' : tmps[p]?.getD undef = .pointer (some ⟨g, 0, none⟩) := by simpa using hp
  simp [results, h, hp', asAddr, hl]
set_option maxRecDepth 100000 in
set_option maxHeartbeats 3200000 in
theorem decode_none0 (s : ByteArray) (w : World) (h : tst (nbs s) 7 = none) :
    Calls Try.prog 14 #[.string s] w fun r w' => r = .returned (.tuple #[evv e0, .string (bs []), .int .i64 4]) ∧ Below w.heap.size w w' := by
  have S1 := hide (DeW.start w)
  have HT := hide h
  clear h
  have HZ := hide (sfx_zero s)
  unfold evv
  simp only [evc, row, List.map_cons, List.map_nil, e0] at S1 ⊢
  go_enter Try.func14, Try.ntmps14
  go_wp2_with fail
  generalize (w.alloc (.cells #[.int .i64 0, .int .i64 0, .int .i64 0, .int .i64 0, .int .i64 0, .int .i64 0, .bool false, .bool false] 23)).alloc (.cells #[.int .i64 0, .int .i64 0, .int .i64 0, .int .i64 0, .int .i64 0, .int .i64 0, .int .i64 0] 57) = W at S1 ⊢
  generalize hN : w.heap.size = N at S1 ⊢
  have HN := hide hN
  clear hN
  go_loopw [0, 11] (fun sv i wr => ∃ (j : Nat) (xs : List Int) (z : Nat), j ≤ 7 ∧ sv = .string (s.extract z s.size) ∧ i = .int .i64 j ∧ tst (nbs s) j = some (xs, z) ∧ DeW w wr N (xs ++ List.replicate (7 - j) 0)) (fun _ i _ => 7 - (intOf i).toNat)
  case atStart => exact ⟨0, [], 0, Nat.zero_le _, by rw [HZ.out], rfl, rfl, S1.out⟩
  case round =>
    clear S1
    obtain ⟨j, xs, z, hj, rfl, rfl, ht, s2⟩ := hrel
    have T2 := hide ht
    have S2 := hide s2
    obtain ⟨hxl, _, hzl⟩ := tst_some ht
    have HXL := hide hxl
    clear ht s2 hxl
    by_cases hlt : j < 7
    · have hlt' : (j : Int) < 7 := by omega
      cases hk : tk (nbs (s.extract z s.size)) with
      | none =>
        have TN := hide fun u => take_none (s.extract z s.size) hk u
        clear hk
        go_wp2_with fail
        refine (TN.out _).mono ?_
        rintro r w3 ⟨rfl, b3⟩
        have S3 := hide (S2.out.below b3)
        clear b3
        have t0 : w3.cell? ⟨N, 0, none⟩ = some (.int .i64 0) := cell_of S3.out.rs 0
        have t1 : w3.cell? ⟨N, 1, none⟩ = some (.int .i64 0) := cell_of S3.out.rs 1
        have t2 : w3.cell? ⟨N, 2, none⟩ = some (.int .i64 0) := cell_of S3.out.rs 2
        have t3 : w3.cell? ⟨N, 3, none⟩ = some (.int .i64 0) := cell_of S3.out.rs 3
        have t4 : w3.cell? ⟨N, 4, none⟩ = some (.int .i64 0) := cell_of S3.out.rs 4
        have t5 : w3.cell? ⟨N, 5, none⟩ = some (.int .i64 0) := cell_of S3.out.rs 5
        have t6 : w3.cell? ⟨N, 6, none⟩ = some (.bool false) := cell_of S3.out.rs 6
        have t7 : w3.cell? ⟨N, 7, none⟩ = some (.bool false) := cell_of S3.out.rs 7
        have f0 := frozen_of S3.out.rs 0
        have f1 := frozen_of S3.out.rs 1
        have f2 := frozen_of S3.out.rs 2
        have f3 := frozen_of S3.out.rs 3
        have f4 := frozen_of S3.out.rs 4
        have f5 := frozen_of S3.out.rs 5
        have f6 := frozen_of S3.out.rs 6
        have f7 := frozen_of S3.out.rs 7
        go_wp2_with fail
        exact bodyPost_ret (results_row3 Try.results14 _ _ _ _ _ _ rfl rfl rfl (loadVar_ev (eig_set S3.out.rs _ _ _ _ _ _ _ _) rfl)) rfl ⟨rfl, by rw [HN.out]; exact eig_below S3.out.b (Nat.le_refl _) _ _ _ _ _ _ _ _⟩
      | some p =>
        obtain ⟨n, q⟩ := p
        have TS := hide fun u => take_some (s.extract z s.size) n q hk u
        rw [sfx_sfx] at TS
        rw [nbs_sfx] at hk
        have T3 := hide (tst_next T2.out hk)
        clear hk
        go_wp2_with fail
        refine (TS.out _).mono ?_
        rintro r w3 ⟨rfl, b3⟩
        have S3 := hide (S2.out.below b3)
        clear b3
        have hc : w3.cell? ⟨N + 1, j, none⟩ = some (.int .i64 0) := by
          rw [cell_of S3.out.tl, row_at _ j (by rw [fill_len xs j HXL.out hj]; exact hlt), fill_at xs j HXL.out hlt]
        have hf := frozen_of S3.out.tl j
        have S4 : Hid (DeW w (w3.setCell ⟨N + 1, j, none⟩ (.int .i64 (n : Int))) N ((xs ++ [(n : Int)]) ++ List.replicate (7 - (j + 1)) 0)) := by
          show DeW _ _ _ _
          rw [← fill_set xs j HXL.out hlt]
          exact S3.out.set j (n : Int)
        go_wp2_with fail
        go_roundw
        case rel => exact ⟨j + 1, xs ++ [(n : Int)], z + q, by omega, rfl, by go_num, T3.out, S4.out⟩
        case measure => simp [intOf]; omega
    · exfalso
      have : j = 7 := by omega
      have h := T2.out
      rw [this, HT.out] at h
      cases h
end En
end Go.Proofs.Ytlcaelfkgillmaa
