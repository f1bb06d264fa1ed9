/- Package pew: List, and the laws' own three(), over this seat's program. -/
import Derived.Test.YtiefaihflmogpabVd
import Derived.Laws.AppendOwn
import Derived.Lib.AppendZeros
namespace Go.Proofs.Ytiefaihflmogpab
open Go.ChangeShapes Go.WideShapes Go.ChangeAt Go.RowKit
namespace Pe
open Ba

theorem drop_is (P : Nat) (l l' : List Wt) (g n : Int) (w : World) (h : Pw w P l) (hd : dr g l = l') (hn : (l.length : Int) - (l'.length : Int) = n) :
    Calls Try.prog 15 #[.pointer (some ⟨P, 0, none⟩), .int .i64 g] w fun r w' => r = .returned (.int .i64 n) ∧ Pw w' P l' ∧ FT P 58 w w' := by
  subst hd hn
  exact drop_any P l g w h
set_option maxRecDepth 100000 in
set_option maxHeartbeats 1600000 in
theorem three_any (w : World) :
    Calls Try.prog 9 #[] w fun r w' => r = .returned (.bool true) ∧ Below w.heap.size w w' := by
  go_enter Try.func9, Try.ntmps9
  go_wp2_with fail
  refine (new_any _).mono ?_
  rintro r w1 ⟨rfl, p1, b1⟩
  have P1 := hide p1
  have B1 := hide b1
  clear p1 b1
  go_wp2_with fail
  refine (add_ok _ [] ⟨1, 0, 0⟩ _ (by decide) P1.out (by decide)).mono ?_
  rintro r w2 ⟨rfl, p2, f2⟩
  have P2 := hide p2
  have B2 := hide (f2.under B1.out (Nat.le_refl _))
  clear p2 f2
  go_wp2_with fail
  refine (add_ok _ _ ⟨2, 0, 0⟩ _ (by decide) P2.out (by decide)).mono ?_
  rintro r w3 ⟨rfl, p3, f3⟩
  have P3 := hide p3
  have B3 := hide (f3.under B2.out (Nat.le_refl _))
  clear p3 f3
  go_wp2_with fail
  refine (add_ok _ _ ⟨1, 0, 0⟩ _ (by decide) P3.out (by decide)).mono ?_
  rintro r w4 ⟨rfl, p4, f4⟩
  have P4 := hide p4
  have B4 := hide (f4.under B3.out (Nat.le_refl _))
  clear p4 f4
  go_wp2_with fail
  refine (drop_is _ _ [⟨2, 0, 0⟩] 1 2 _ P4.out rfl rfl).mono ?_
  rintro r w5 ⟨rfl, p5, f5⟩
  have P5 : Hid (Pw w5 w.heap.size [⟨2, 0, 0⟩]) := p5
  have B5 := hide (f5.under B4.out (Nat.le_refl _))
  clear p5 f5
  go_wp2_with fail
  refine (take_some _ ⟨2, 0, 0⟩ [] _ P5.out).mono ?_
  rintro r w6 ⟨rfl, p6, f6⟩
  have P6 := hide p6
  have B6 := hide (f6.under B5.out (Nat.le_refl _))
  clear p6 f6
  unfold wv
  go_wp2_with fail
  refine (len_any _ [] _ (P6.out.below (below_alloc _ _))).mono ?_
  rintro r w7 ⟨rfl, rfl⟩
  go_wp2_with fail
  go_ret
  exact ⟨rfl, btr B6.out (below_alloc _ _)⟩

theorem info_wt : (Try.prog.info? 31).map (fun i => (i.zero, i.size, i.bytes)) = some (some (wv ⟨0, 0, 0⟩), 3, 24) := by kernel_rfl
set_option maxRecDepth 100000 in
theorem list_nil (w : World) :
    Calls Try.prog 23 #[.pointer none] w fun r w' => (∃ oa, r = .returned (.slice oa 0 0)) ∧ Below w.heap.size w w' := by
  cases hi : Try.prog.info? 31 with
  | none => have := info_wt; rw [hi] at this; cases this
  | some i =>
  have hx := info_wt
  rw [hi] at hx
  simp at hx
  obtain ⟨hz, hs, hb⟩ := hx
  have hm : (Instr.makeSlice 47 (.int .i64 0) (.int .i64 0)).run Try.prog w = _ := run_make (P := Try.prog) w 47 31 i _ Try.underlying47 hi hz .i64 .i64 0 0 (by omega) (Int.le_refl _) (by rw [hb]; omega) (by omega)
  have B := hide (below_alloc w (.cells (madeCells (wv ⟨0, 0, 0⟩).cells (Int.toNat 0 * i.size)) 31))
  generalize (w.alloc (.cells (madeCells (wv ⟨0, 0, 0⟩).cells (Int.toNat 0 * i.size)) 31)) = w2 at hm B
  go_enter Try.func23, Try.ntmps23
  go_wp2_with fail
  refine (len_nil _).mono ?_
  rintro r w1 ⟨rfl, rfl⟩
  go_wp2_with fail
  refine (front_nil _).mono ?_
  rintro r _ ⟨rfl, rfl⟩
  go_wp2_with fail
  go_loop [3, 4] (fun l s => l = .slice (some ⟨w1.heap.size, 0, none⟩) 0 0 ∧ s = .pointer none) (fun _ _ => 0)
  case atStart => exact ⟨rfl, rfl⟩
  case round =>
    obtain ⟨rfl, rfl⟩ := hrel
    go_wp2_with fail
    go_ret
    exact ⟨⟨_, rfl⟩, B.out⟩
end Pe
end Go.Proofs.Ytiefaihflmogpab
