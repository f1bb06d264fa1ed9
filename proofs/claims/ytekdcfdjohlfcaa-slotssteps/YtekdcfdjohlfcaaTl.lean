/- The reference's slots: Peek of a send, New, Close, over this seat's program. -/
import Derived.Test.YtekdcfdjohlfcaaTk
namespace Go.Proofs.Ytekdcfdjohlfcaa
open Go.ChangeShapes Go.WideShapes Go.ChangeAt Go.RowKit
namespace Sl
open Ck
open Ba (KF Bd Nw)

set_option maxRecDepth 100000 in
set_option maxHeartbeats 1600000 in
theorem rpeek_no {w : World} {G : Nat} {st : Rst} {vs vr : Value} (s : RX w G st vs vr) (hn : rpk st true = none) (hl : st.sent.length ≤ 1000000) (hz : st.sz ≤ 4) :
    Calls Try.prog 40 #[.pointer (some ⟨G, 0, none⟩), .bool true] w fun r w' => r = .returned (.agg (fe nf false)) ∧ Below w.heap.size w w' := by
  obtain ⟨oa, ca, rfl⟩ := own_sl' s.os
  obtain ⟨ob, cb, rfl⟩ := own_sl' s.or_
  obtain ⟨y0, y1, y2, y3⟩ := s.cells
  have hlt := s.lt
  have zf := zero_f
  have hX : (w.alloc (.cells (fe nf false) 44)).drew.heap[w.heap.size]? = some (.cells (fe nf false) 44 (0, 0)) := heap_new w _
  have stf := sc_fe nf false hX (fe_size nf false)
  rw [setRow_self _ _ _ _ _ hX] at stf
  have b0 := bld_f0
  have hrs := fe_size nf false
  have HSZ : Hid ((Try.prog.info? 44).map (·.size) = some (fe nf false).size) := by show _ = _; rw [size_f, fe_size]
  have HX := hide hX
  clear s hX
  have key : ∀ (Gl : Prop), (decide (0 < (st.sz : Int)) = false → Gl) → (decide (0 < (st.sz : Int)) = true → decide (0 ≤ (st.sent.length : Int) - (st.sz : Int)) = false → Gl) → (decide (0 < (st.sz : Int)) = true → decide (0 ≤ (st.sent.length : Int) - (st.sz : Int)) = true → decide ((st.sent.length : Int) - (st.sz : Int) < (st.recd.length : Int)) = false → Gl) → Gl := by
    intro Gl g1 g2 g3
    by_cases q1 : 0 < st.sz
    · by_cases q2 : st.sz ≤ st.sent.length
      · have h3 : st.recd[st.sent.length - st.sz]? = none := by
          unfold rpk at hn
          rw [if_pos rfl, if_pos ⟨q1, q2⟩] at hn
          exact hn
        rw [List.getElem?_eq_none_iff] at h3
        exact g3 (decide_eq_true (by omega)) (decide_eq_true (by omega)) (decide_eq_false (by omega))
      · exact g2 (decide_eq_true (by omega)) (decide_eq_false (by omega))
    · exact g1 (decide_eq_false (by omega))
  clear hn
  generalize fe nf false = Z at *
  generalize st.sent.length = a at *
  generalize st.recd.length = b at *
  have hz0 : 0 ≤ (st.sz : Int) ∧ (st.sz : Int) ≤ 4 := by omega
  clear hz
  generalize (st.sz : Int) = z at *
  obtain ⟨k, hk⟩ : ∃ k : Int, (a : Int) - z = k := ⟨_, rfl⟩
  rw [hk] at key
  refine key _ (fun d1 => ?_) (fun d1 d2 => ?_) (fun d1 d2 d3 => ?_)
  all_goals
    clear key
    go_enter Try.func40, Try.ntmps40
    go_wp2_with fail
    go_region
    go_wp2_with fail
    exact bodyPost_ret (results_cell_row Try.results40 _ _ _ _ _ _ _ rfl HX.out Try.underlying44 rfl HSZ.out) rfl ⟨rfl, btr (below_alloc _ _) (Ba.bdrew1 _)⟩
set_option maxRecDepth 100000 in
set_option maxHeartbeats 1600000 in
theorem rpeek_yes {w : World} {G : Nat} {st : Rst} {vs vr : Value} {F : Nat → Int} (s : RX w G st vs vr) (hn : rpk st true = some F) (hl : st.sent.length ≤ 1000000) (hz : st.sz ≤ 4) :
    Calls Try.prog 40 #[.pointer (some ⟨G, 0, none⟩), .bool true] w fun r w' => r = .returned (.agg (fe F true)) ∧ Below w.heap.size w w' := by
  obtain ⟨oa, ca, rfl⟩ := own_sl' s.os
  obtain ⟨ob, cb, rfl⟩ := own_sl' s.or_
  obtain ⟨y0, y1, y2, y3⟩ := s.cells
  have hlt := s.lt
  have zf := zero_f
  have hX : (w.alloc (.cells (fe nf false) 44)).drew.heap[w.heap.size]? = some (.cells (fe nf false) 44 (0, 0)) := heap_new w _
  have stf := sc_fe F true hX (fe_size nf false)
  have hq : 0 < st.sz ∧ st.sz ≤ st.sent.length ∧ st.recd[st.sent.length - st.sz]? = some F := by
    unfold rpk at hn
    rw [if_pos rfl] at hn
    split at hn
    · exact ⟨‹_ ∧ _›.1, ‹_ ∧ _›.2, hn⟩
    · cases hn
  obtain ⟨q1, q2, q3⟩ := hq
  have hkl := (List.getElem?_eq_some_iff.1 q3).1
  obtain ⟨g, rfl⟩ := own_g' s.or_ (by omega)
  have ra0 := row_ra (s.below (btr (below_alloc w (.cells (fe nf false) 44)) (Ba.bdrew1 _))).or_ q3
  have LD := hide (ldv_ref ra0)
  have ff := fold_f F true
  have fl := fold_l F true
  have fs := fold_s F
  have as_ := ra_size F
  have zs := fe_size nf false
  have hrs := fe_size F true
  have HSZ : Hid ((Try.prog.info? 44).map (·.size) = some (fe F true).size) := by show _ = _; rw [size_f, fe_size]
  have HY : Hid (((w.alloc (.cells (fe nf false) 44)).drew.setRow w.heap.size (fe F true)).heap[w.heap.size]? = some (.cells (fe F true) 44 (0, 0))) := setRow_heap _ _ _ _ _ _ hX
  have BY : Hid (Below w.heap.size w ((w.alloc (.cells (fe nf false) 44)).drew.setRow w.heap.size (fe F true))) := below_setRow (btr (below_alloc _ _) (Ba.bdrew1 _)) (Nat.le_refl _) _
  have d1 : decide (0 < (st.sz : Int)) = true := decide_eq_true (by omega)
  have ek : (st.sent.length : Int) - (st.sz : Int) = ((st.sent.length - st.sz : Nat) : Int) := by omega
  clear s hX hn q3 ra0
  generalize fe nf false = Z at *
  generalize ra F = A at *
  generalize fe F true = R at *
  generalize st.sent.length - st.sz = k at *
  generalize st.sent.length = a at *
  generalize st.recd.length = b at *
  have hz0 : 0 ≤ (st.sz : Int) ∧ (st.sz : Int) ≤ 4 := by omega
  have hka : k ≤ a := by omega
  clear hz q1 q2
  generalize (st.sz : Int) = z at *
  have d2 : decide (0 ≤ (k : Int)) = true := decide_eq_true (by omega)
  have d3 : decide ((k : Int) < (b : Int)) = true := decide_eq_true (by omega)
  have d3' : (k : Int) < (b : Int) := by omega
  go_enter Try.func40, Try.ntmps40
  go_wp2_with fail
  go_region
  go_wp2_with (refine wpL_load rfl 39 _ rfl _ _ rfl LD.out ?_)
  exact bodyPost_ret (results_cell_row Try.results40 _ _ _ _ _ _ _ rfl HY.out Try.underlying44 rfl HSZ.out) rfl ⟨rfl, BY.out⟩
end Sl
end Go.Proofs.Ytekdcfdjohlfcaa
