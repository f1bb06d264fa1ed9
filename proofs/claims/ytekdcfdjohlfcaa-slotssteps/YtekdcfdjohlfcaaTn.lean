/- The reference's slots: Send (walk), over this seat's program. -/
import Derived.Test.YtekdcfdjohlfcaaTm
namespace Go.Proofs.Ytekdcfdjohlfcaa
open Go.ChangeShapes Go.WideShapes Go.ChangeAt Go.RowKit
namespace Sl
open Ck
open Ba (KF Bd Nw)

set_option maxRecDepth 100000 in
set_option maxHeartbeats 3200000 in
theorem rsend_ok {w : World} {G : Nat} {st : Rst} {vs vr : Value} (s : RX w G st vs vr) (F : Nat → Int) (hc : st.closed = false) (hn : ¬ (st.recd.length + st.sz ≤ st.sent.length ∧ st.recd.length + 1 ≤ st.sent.length)) (hr : st.recd.length ≤ st.sent.length) (hl : st.sent.length ≤ 100000) (hz : st.sz ≤ 4) :
    Calls Try.prog 11 #[.pointer (some ⟨G, 0, none⟩), .agg (ra F)] w fun r w' => r = .returned (.tuple #[.agg (rfv (rpk st true)), .int .i64 0]) ∧ ∃ vs', RX w' G { st with sent := st.sent ++ [F] } vs' vr ∧ (vs'.ownBlock = vs.ownBlock ∨ ∃ N, vs'.ownBlock = some N ∧ w.heap.size ≤ N) ∧ KF (fun k => k = G ∨ vs.ownBlock = some k) w w' := by
  obtain ⟨oa, ca, rfl⟩ := own_sl' s.os
  obtain ⟨ob, cb, rfl⟩ := own_sl' s.or_
  obtain ⟨y0, y1, y2, y3⟩ := s.cells
  rw [hc] at y3
  have hlt := s.lt
  have zf := zero_f
  have b1 := btr (btr (below_alloc w (.cells (ra F) 39)) (below_alloc _ (.cells (fe nf false) 44))) (Ba.bdrew1 _)
  have PK := hide (rpeek_any (s.below b1) (by show st.sent.length ≤ _; omega) hz)
  obtain ⟨F', x', hfe⟩ := rfv_fe (rpk st true)
  rw [hfe] at PK ⊢
  have HS := hide s
  clear s hc
  have hnn : 0 ≤ (st.sent.length : Int) - (st.recd.length : Int) ∧ (st.sent.length : Int) - (st.recd.length : Int) ≤ 100000 := by omega
  obtain ⟨m, hm⟩ : ∃ m : Int, (st.sent.length : Int) - (st.recd.length : Int) = m := ⟨_, rfl⟩
  have key : ∀ (Gl : Prop), (decide ((st.sz : Int) ≤ m) = false → Gl) → (decide ((st.sz : Int) ≤ m) = true → decide (1 ≤ m) = false → Gl) → Gl := by
    intro Gl g1 g2
    by_cases q : (st.sz : Int) ≤ m
    · exact g2 (decide_eq_true q) (decide_eq_false (by omega))
    · exact g1 (decide_eq_false q)
  rw [hm] at hnn
  refine key _ (fun d1 => ?_) (fun d1 d2 => ?_)
  all_goals
    clear key hn
    go_enter Try.func11, Try.ntmps11
    go_wp2_with fail
    go_region
    go_wp2_with fail
    refine PK.out.mono ?_
    rintro r w2 ⟨rfl, b2⟩
    have b12 := btr b1 b2
    have S2 := hide (HS.out.below b12)
    have hz2 : w.heap.size + 1 < w2.heap.size := by have := b2.size; rw [size_ad2] at this; omega
    have hA2 : w2.heap[w.heap.size]? = some (.cells (ra F) 39 (0, 0)) := Ba.heap_below (Ba.heap_below (Ba.heap_below (heap_new w (.cells (ra F) 39)) (below_alloc _ _)) (Ba.bdrew1 _)) b2
    have hZ2 : w2.heap[w.heap.size + 1]? = some (.cells (fe nf false) 44 (0, 0)) := by
      have := heap_new (w.alloc (.cells (ra F) 39)) (.cells (fe nf false) 44)
      rw [World.size_alloc] at this
      exact Ba.heap_below (Ba.heap_below this (Ba.bdrew1 _)) b2
    have stf := sc_fe F' x' (heap_new w2 (.cells (fe nf false) 44)) (fe_size nf false)
    rw [setRow_fe] at stf
    have hrs := fe_size F' x'
    -- the world behind the fetched one's own block, and behind the draw
    have bw3 : Below w2.heap.size w2 (w2.alloc (.cells (fe F' x') 44)).drew := btr (below_alloc w2 (.cells (fe F' x') 44)) (Ba.bdrew1 _)
    have S3 := hide (S2.out.below bw3)
    have hA3 := Ba.heap_below hA2 bw3
    have lc : (loadCellsFrom ⟨w.heap.size, 0, none⟩ 0 256 #[]).run Try.prog (w2.alloc (.cells (fe F' x') 44)).drew = .ok (ra F) (w2.alloc (.cells (fe F' x') 44)).drew := ld_ref (RA.of hA3)
    obtain ⟨LC, hLC⟩ : ∃ LC : Nat → Sem (Array Value), ∀ n, loadCellsFrom (⟨w.heap.size, 0, none⟩ : Addr) 0 n #[] = LC n := ⟨fun n => loadCellsFrom (⟨w.heap.size, 0, none⟩ : Addr) 0 n #[], fun _ => rfl⟩
    rw [hLC] at lc
    have y12 : w2.cell? ⟨G, 1, none⟩ = some (.slice oa st.sent.length ca) := S2.out.cells.2.1
    have hG2 : G < w2.heap.size := S2.out.lt
    have hs4 := size_ad1 w2 (.cells (fe F' x') 44)
    obtain ⟨v', w5, hr5, ho5, hg5, hat5⟩ := rapp F (w2.heap.size + 1) (own_below' S3.out.os (below_alloc _ (.cells (ra F) 39))) (by have := heap_new (w2.alloc (.cells (fe F' x') 44)).drew (.cells (ra F) 39); rw [hs4] at this; exact this) (by omega)
    obtain ⟨oa', ca', hv5⟩ := own_sl' ho5
    obtain ⟨n', hn'⟩ : ∃ n' : Nat, n' = (st.sent ++ [F]).length := ⟨_, rfl⟩
    rw [← hn'] at hv5
    subst hv5
    clear hn'
    have HR := hide hr5
    have own_lt : ∀ k, (Value.slice oa st.sent.length ca).ownBlock = some k → k < w.heap.size := fun k e => (HS.out.os.lt k e).2
    have hb4 : Below w2.heap.size w2 ((w2.alloc (.cells (fe F' x') 44)).drew.alloc (.cells (ra F) 39)) := btr bw3 (below_alloc _ _)
    have hs5 : ((w2.alloc (.cells (fe F' x') 44)).drew.alloc (.cells (ra F) 39)).heap.size = w2.heap.size + 1 + 1 := by rw [World.size_alloc, hs4]
    have blk5 : ∀ k, k < w2.heap.size → (Value.slice oa st.sent.length ca).ownBlock ≠ some k → w5.heap[k]? = w2.heap[k]? := fun k hk hne => (hg5.block k (by rw [hs5]; omega) (fun e => hne e.symm)).trans (hb4.block k hk)
    have hG5 : w5.heap[G]? = some (.cells (rcl st (.slice oa st.sent.length ca) (.slice ob st.recd.length cb)) 96 (0, 0)) := (blk5 G hG2 HS.out.gs).trans S2.out.hp
    have hR5 : w5.heap[w2.heap.size]? = some (.cells (fe F' x') 44 (0, 0)) := (hg5.block w2.heap.size (by rw [hs5]; omega) (fun e => by have := own_lt _ e.symm; omega)).trans (Ba.heap_below (Ba.heap_below (heap_new w2 _) (Ba.bdrew1 _)) (below_alloc _ _))
    have hZ5 : w5.heap[w.heap.size + 1]? = some (.cells (fe nf false) 44 (0, 0)) := (blk5 _ hz2 (fun e => by have := own_lt _ e; omega)).trans hZ2
    have y15 : w5.cell? ⟨G, 1, none⟩ = some (.slice oa st.sent.length ca) := (cell_of hG5 1).trans (rcl_lt _ _ _ 1 (by decide))
    have f15 : w5.frozen? ⟨G, 1, none⟩ = false := frozen_of hG5 1
    have hR6 : (w5.setCell ⟨G, 1, none⟩ (.slice oa' n' ca')).heap[w2.heap.size]? = some (.cells (fe F' x') 44 (0, 0)) := (heap_set_other _ _ _ _ _ (by omega)).trans hR5
    have hZ6 : (w5.setCell ⟨G, 1, none⟩ (.slice oa' n' ca')).heap[w.heap.size + 1]? = some (.cells (fe nf false) 44 (0, 0)) := (heap_set_other _ _ _ _ _ (by omega)).trans hZ5
    have LD7 := hide (ldv_fe hR6)
    have stf4 := sc_fe F' x' hZ6 (fe_size nf false)
    have HY : Hid (((w5.setCell ⟨G, 1, none⟩ (.slice oa' n' ca')).setRow (w.heap.size + 1) (fe F' x')).heap[w.heap.size + 1]? = some (.cells (fe F' x') 44 (0, 0))) := setRow_heap _ _ _ _ _ _ hZ6
    have FIN : Hid (RX ((w5.setCell ⟨G, 1, none⟩ (.slice oa' n' ca')).setRow (w.heap.size + 1) (fe F' x')) G { st with sent := st.sent ++ [F] } (.slice oa' n' ca') (.slice ob st.recd.length cb) ∧ ((Value.slice oa' n' ca').ownBlock = (Value.slice oa st.sent.length ca).ownBlock ∨ ∃ N, (Value.slice oa' n' ca').ownBlock = some N ∧ w.heap.size ≤ N) ∧ KF (fun k => k = G ∨ (Value.slice oa st.sent.length ca).ownBlock = some k) w ((w5.setCell ⟨G, 1, none⟩ (.slice oa' n' ca')).setRow (w.heap.size + 1) (fe F' x'))) := rsend_fin HS.out b12 hz2 hb4 ho5 hg5 hat5
    clear hr5 ho5 hg5 hat5 hb4 hs5 blk5 hG5 hR5 hZ5 hR6 hZ6 own_lt hA2 hZ2 hA3 bw3 hs4 b2 b12
    have LDY := hide (ldv_fe HY.out)
    have as_ := ra_size F
    have zs := fe_size nf false
    have zc := zero_ref
    have fo := fold_r F
    have z0s := ra_size nf
    clear HY PK HS b1 S2 S3
    generalize ra F = A at *
    generalize ra nf = Z0 at *
    generalize hrg : Array.range 256 = RG at *
    generalize hR : fe F' x' = R at *
    generalize fe nf false = Z at *
    go_wp2_with fail
    go_region_law (refine step_append_run _ (by rfl) _ _ _ _ (by rfl) _ _ (by rfl) (by rfl) _ _ HR.out ?_)
    all_goals
      go_wp2_with (refine wpL_load rfl 44 _ rfl _ _ rfl LD7.out ?_)
      exact bodyPost_ret (Ba.results_row2 Try.results11 _ _ _ _ _ rfl rfl LDY.out) rfl ⟨(by rw [hR]; rfl), _, FIN.out⟩
end Sl
end Go.Proofs.Ytekdcfdjohlfcaa
