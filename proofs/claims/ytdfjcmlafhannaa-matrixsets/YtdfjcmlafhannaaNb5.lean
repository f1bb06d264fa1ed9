/- Layer 25's laws: their own three(), pairs among their arguments, over this seat's program. -/
import Derived.Test.YtdfjcmlafhannaaNb4
import Derived.Deep.Slices
import Derived.ShutString
import Derived.ChangeOld
namespace Go.Proofs.Ytdfjcmlafhannaa
open Go.ChangeShapes Go.WideShapes Go.ChangeAt Go.RowKit
namespace Mx
open Ba (KB btr heap_lt cell_of frozen_of ret_bool ret_int bdrew bdrew1 heap_new below_alloc heap_below own_below nth)

/-- pairs in memory -/
def PAt (w : World) (oa : Option Addr) (l : List (Int × Int)) : Prop := ∀ k p, l[k]? = some p → ∃ b off, oa = some ⟨b, off, none⟩ ∧ w.cell? ⟨b, off + k * 2, none⟩ = some (.int .i64 p.1) ∧ w.cell? ⟨b, off + k * 2 + 1, none⟩ = some (.int .i64 p.2)
theorem PAt.below {w w' : World} {oa : Option Addr} {l : List (Int × Int)} (h : PAt w oa l) (b : Below w.heap.size w w') : PAt w' oa l := fun k p hk => by
  obtain ⟨g, o, h1, h2, h3⟩ := h k p hk
  exact ⟨g, o, h1, cellB h2 b, cellB h3 b⟩
section
variable {H : Type} {enc : TypeId × Value → H} {w : World}
theorem fields2 : ∃ fs : Array Field, Try.prog.underlying 32 = some (.struct fs) ∧ fs.size = 2 ∧ (∃ f, fs[0]? = some f ∧ f.offset = 0 ∧ f.type = 3) ∧ (∃ f, fs[1]? = some f ∧ f.offset = 1 ∧ f.type = 3) :=
  ⟨_, Try.underlying32, rfl, ⟨_, rfl, rfl, rfl⟩, ⟨_, rfl, rfl, rfl⟩⟩
theorem cells_pair : Try.prog.cellsOf 32 = 2 := by kernel_rfl
theorem pair_cells (n : Nat) (cs : List Value) (x : DataW H × List MemPlace) (h : DataW.trod enc Try.prog w 0 (fun _ => true) true n 32 cs = some x) : ∃ z : List Int, ∀ j, j < 2 → cs[j]? = some (.int .i64 (nth z j)) := by
  obtain ⟨fs, hu, hsz, ⟨f0, g0, o0, t0⟩, ⟨f1, g1, o1, t1⟩⟩ := fields2
  obtain ⟨xs, k, _, hxx, hcl, hxl, hff⟩ := DataW.trod_struct hu h
  rw [hsz] at hxl
  have a0 := hff 0 f0 g0
  have a1 := hff 1 f1 g1
  rw [o0, t0, Ba.cells_int, List.getElem?_eq_getElem (by omega)] at a0
  rw [o1, t1, Ba.cells_int, List.getElem?_eq_getElem (by omega)] at a1
  obtain ⟨v0, e0, _⟩ := DataW.trod_int Try.underlying3 a0
  obtain ⟨v1, e1, _⟩ := DataW.trod_int Try.underlying3 a1
  refine ⟨[v0, v1], fun j hj => ?_⟩
  match j, hj with
  | 0, _ => exact Ba.one_of e0
  | 1, _ => exact Ba.one_of e1
theorem pairs_open {n : Nat} {oa : Option Addr} {len cap : Nat} {x : DataW H × List MemPlace} (h : DataW.trod enc Try.prog w 0 (fun _ => true) true n 22 [.slice oa len cap] = some x) : ∃ l : List (Int × Int), l.length = len ∧ PAt w oa l ∧ len ≤ cap ∧ cap ≤ maxLen := by
  obtain ⟨l, h1, h2, h3, h4⟩ := Ba.recs_open Try.underlying22 (by decide) cells_pair pair_cells h
  refine ⟨l.map fun z => (nth z 0, nth z 1), by simp [h1], fun k p hk => ?_, h3, h4⟩
  rw [List.getElem?_map] at hk
  cases hz : l[k]? with
  | none => rw [hz] at hk; cases hk
  | some z =>
    rw [hz] at hk
    cases hk
    obtain ⟨b, off, e, hc⟩ := h2 k z hz
    exact ⟨b, off, e, hc 0 (by decide), hc 1 (by decide)⟩
end
theorem MW.po {w : World} {M R W n : Nat} {r : Rws} (m : MW w M R W n r) : PO w (some ⟨M, 0, none⟩) n r := ⟨m.le, .inr ⟨M, R, W, rfl, m⟩⟩
/-- three's matrix behind its closing -/
def r3 : Rws := clo (setR 3 (setR 3 (fun _ => 0) 0 1) 1 2) 3
theorem r3_has : hsI 3 r3 0 2 = true := by decide +kernel
theorem r3_row : ps (fun k => hsI 3 r3 0 (k : Int)) 3 = [1, 2] := by decide +kernel
theorem r3_total : total r3 3 3 = 3 := by decide +kernel
set_option maxRecDepth 100000 in
set_option maxHeartbeats 1600000 in
theorem three_any (w : World) :
    Calls Try.prog 8 #[] w fun r w' => r = .returned (.bool true) ∧ Below w.heap.size w w' := by
  go_enter Try.func8, Try.ntmps8
  go_wp2_with fail
  refine (new_ok 3 (by decide) _).mono ?_
  rintro r w1 ⟨rfl, m1, b1⟩
  have M1 := hide m1
  have B1 := hide b1
  clear m1 b1
  go_wp2_with fail
  refine (set_any M1.out 0 1).mono ?_
  rintro r w2 ⟨rfl, m2, k2⟩
  have M2 := hide m2
  have B2 := hide (KB.below B1.out k2 (Nat.le_refl _))
  clear m2 k2
  simp only [show setE 3 0 1 = 0 from by decide +kernel]
  go_wp2_with fail
  refine (set_any M2.out 1 2).mono ?_
  rintro r w3 ⟨rfl, m3, k3⟩
  have M3 := hide m3
  have B3 := hide (KB.below B2.out k3 (Nat.le_refl _))
  clear m3 k3
  simp only [show setE 3 1 2 = 0 from by decide +kernel]
  go_wp2_with fail
  refine (close_any M3.out).mono ?_
  rintro r w4 ⟨rfl, m4, k4⟩
  have M4 : Hid (MW w4 (w.heap.size + 2) (w.heap.size + 1) w.heap.size 3 r3) := m4
  have B4 := hide (KB.below B3.out k4 (Nat.le_refl _))
  clear m4 k4
  go_wp2_with fail
  have HA := hide (has_any M4.out 0 2)
  rw [r3_has] at HA
  refine HA.out.mono ?_
  rintro r w5 ⟨rfl, q, e5⟩
  have M5 : Hid (MW w5 (w.heap.size + 2) (w.heap.size + 1) w.heap.size 3 r3) := by rw [e5]; exact M4.out.drw q
  have B5 : Hid (Below w.heap.size w w5) := by rw [e5]; exact btr B4.out (bdrew _ q)
  clear e5
  go_wp2_with fail
  have CO := hide (count_any M5.out)
  rw [r3_total] at CO
  refine CO.out.mono ?_
  rintro r w6 ⟨rfl, rfl⟩
  go_wp2_with fail
  have RO := hide (row_any M5.out.po 0)
  rw [r3_row] at RO
  refine RO.out.mono ?_
  rintro r w6 ⟨oa, c, rfl, a6, b6⟩
  have A6 := hide (a6.below (below_alloc w6 (.cells #[.int .i64 1, .int .i64 2] 3)))
  have A7 := hide (Ba.At.lit w6 [1, 2] 3 #[.int .i64 1, .int .i64 2] rfl)
  have B7 := hide (btr (btr B5.out b6) (below_alloc w6 (.cells #[.int .i64 1, .int .i64 2] 3)))
  clear a6 b6
  go_wp2_with fail
  refine (Ba.ints_is _ _ [1, 2] [1, 2] 2 2 _ 2 true rfl rfl rfl _ A6.out A7.out (by decide) (by decide)).mono ?_
  rintro r w8 ⟨rfl, b8⟩
  have B8 := hide (btr B7.out b8)
  clear b8
  go_wp2_with fail
  go_ret
  exact ⟨rfl, B8.out⟩
end Mx
end Go.Proofs.Ytdfjcmlafhannaa
