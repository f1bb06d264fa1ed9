/- The reference's slots: Send where it gives an error, over this seat's program. -/
import Derived.Test.YtekdcfdjohlfcaaTm
namespace Go.Proofs.Ytekdcfdjohlfcaa
open Go.ChangeShapes Go.WideShapes Go.ChangeAt Go.RowKit
namespace Sl
open Ck
open Ba (KF Bd Nw)

theorem heap_ad2 (w : World) (F : Nat → Int) : ((w.alloc (.cells (ra F) 39)).alloc (.cells (fe nf false) 44)).heap[w.heap.size + 1]? = some (.cells (fe nf false) 44 (0, 0)) := by
  have := heap_new (w.alloc (.cells (ra F) 39)) (.cells (fe nf false) 44)
  rw [World.size_alloc] at this
  exact this
set_option maxRecDepth 100000 in
theorem rsend_closed {w : World} {G : Nat} {st : Rst} {vs vr : Value} (s : RX w G st vs vr) (F : Nat → Int) (hc : st.closed = true) :
    Calls Try.prog 11 #[.pointer (some ⟨G, 0, none⟩), .agg (ra F)] w fun r w' => r = .returned (.tuple #[.agg (rfv none), .int .i64 90]) ∧ Below w.heap.size w w' := by
  obtain ⟨y0, y1, y2, y3⟩ := s.cells
  rw [hc] at y3
  have hlt := s.lt
  have zf := zero_f
  have b0 := bld_f0
  have hX := heap_ad2 w F
  have stf := sc_fe nf false hX (fe_size nf false)
  have HY : Hid ((((w.alloc (.cells (ra F) 39)).alloc (.cells (fe nf false) 44)).setRow (w.heap.size + 1) (fe nf false)).heap[w.heap.size + 1]? = some (.cells (fe nf false) 44 (0, 0))) := setRow_heap _ _ _ _ _ _ hX
  have LDY := hide (ldv_fe HY.out)
  have BY : Hid (Below w.heap.size w (((w.alloc (.cells (ra F) 39)).alloc (.cells (fe nf false) 44)).setRow (w.heap.size + 1) (fe nf false))) := below_setRow (btr (below_alloc _ _) (below_alloc _ _)) (by omega) _
  have as_ := ra_size F
  have zs := fe_size nf false
  have erv : rfv none = fe nf false := rfl
  rw [erv]
  clear s hc hX HY erv
  generalize ra F = A at *
  generalize fe nf false = Z at *
  go_enter Try.func11, Try.ntmps11
  go_wp2_with fail
  exact bodyPost_ret (Ba.results_row2 Try.results11 _ _ _ _ _ rfl rfl LDY.out) rfl ⟨rfl, BY.out⟩
set_option maxRecDepth 100000 in
set_option maxHeartbeats 800000 in
theorem rsend_full {w : World} {G : Nat} {st : Rst} {vs vr : Value} (s : RX w G st vs vr) (F : Nat → Int) (hc : st.closed = false) (hn : st.recd.length + st.sz ≤ st.sent.length ∧ st.recd.length + 1 ≤ st.sent.length) (hl : st.sent.length ≤ 100000) :
    Calls Try.prog 11 #[.pointer (some ⟨G, 0, none⟩), .agg (ra F)] w fun r w' => r = .returned (.tuple #[.agg (rfv none), .int .i64 5]) ∧ Below w.heap.size w w' := by
  obtain ⟨oa, ca, rfl⟩ := own_sl' s.os
  obtain ⟨ob, cb, rfl⟩ := own_sl' s.or_
  obtain ⟨y0, y1, y2, y3⟩ := s.cells
  rw [hc] at y3
  have hlt := s.lt
  have zf := zero_f
  have b0 := bld_f0
  have hX := Ba.heap_below (heap_ad2 w F) (Ba.bdrew1 _)
  have stf := sc_fe nf false hX (fe_size nf false)
  have HY : Hid ((((w.alloc (.cells (ra F) 39)).alloc (.cells (fe nf false) 44)).drew.setRow (w.heap.size + 1) (fe nf false)).heap[w.heap.size + 1]? = some (.cells (fe nf false) 44 (0, 0))) := setRow_heap _ _ _ _ _ _ hX
  have LDY := hide (ldv_fe HY.out)
  have BY : Hid (Below w.heap.size w (((w.alloc (.cells (ra F) 39)).alloc (.cells (fe nf false) 44)).drew.setRow (w.heap.size + 1) (fe nf false))) := below_setRow (btr (btr (below_alloc _ _) (below_alloc _ _)) (Ba.bdrew1 _)) (by omega) _
  have as_ := ra_size F
  have zs := fe_size nf false
  have erv : rfv none = fe nf false := rfl
  rw [erv]
  have hnn : 0 ≤ (st.sent.length : Int) - (st.recd.length : Int) ∧ (st.sent.length : Int) - (st.recd.length : Int) ≤ 100000 := by omega
  have q1 : (st.sz : Int) ≤ (st.sent.length : Int) - (st.recd.length : Int) := by omega
  have q2 : 1 ≤ (st.sent.length : Int) - (st.recd.length : Int) := by omega
  obtain ⟨m, hm⟩ : ∃ m : Int, (st.sent.length : Int) - (st.recd.length : Int) = m := ⟨_, rfl⟩
  rw [hm] at hnn q1 q2
  have d1 := decide_eq_true q1
  have d2 := decide_eq_true q2
  clear s hc hX HY erv hn q1 q2
  generalize ra F = A at *
  generalize fe nf false = Z at *
  go_enter Try.func11, Try.ntmps11
  go_wp2_with fail
  go_region
  go_wp2_with fail
  exact bodyPost_ret (Ba.results_row2 Try.results11 _ _ _ _ _ rfl rfl LDY.out) rfl ⟨rfl, BY.out⟩
end Sl
end Go.Proofs.Ytekdcfdjohlfcaa
