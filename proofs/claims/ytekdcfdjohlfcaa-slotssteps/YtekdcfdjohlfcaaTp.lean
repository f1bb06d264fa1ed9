/- The reference's slots: Recv, over this seat's program. -/
import Derived.Test.YtekdcfdjohlfcaaTm
namespace Go.Proofs.Ytekdcfdjohlfcaa
open Go.ChangeShapes Go.WideShapes Go.ChangeAt Go.RowKit
namespace Sl
open Ck
open Ba (KF Bd Nw)

theorem rrecv_fin {w w2 w4 w5 : World} {G : Nat} {st : Rst} {vs vr vr' : Value} {l : List (Nat → Int)} {cs : Array Value}
    (s : RX w G st vs vr) (b12 : Below w.heap.size w w2) (hz2 : w.heap.size + 1 < w2.heap.size) (hb4 : Below w2.heap.size w2 w4)
    (ho : w5.ownsRow 0 39 256 vr' l.length (rcs l)) (hg : w4.grownBy w5 vr.ownBlock) (hat : vr'.ownBlock = vr.ownBlock ∨ vr'.ownBlock = some w4.heap.size) :
    RX ((w5.setCell ⟨G, 2, none⟩ vr').setRow (w.heap.size + 1) cs) G { st with recd := l } vs vr' ∧ (vr'.ownBlock = vr.ownBlock ∨ ∃ N, vr'.ownBlock = some N ∧ w.heap.size ≤ N) ∧ KF (fun k => k = G ∨ vr.ownBlock = some k) w ((w5.setCell ⟨G, 2, none⟩ vr').setRow (w.heap.size + 1) cs) := by
  have h24 := hb4.size
  have hlt := s.lt
  have low : ∀ k, k < w.heap.size → vr.ownBlock ≠ some k → w5.heap[k]? = w.heap[k]? := fun k hk hne => (hg.block k (by omega) (fun e => hne e.symm)).trans ((hb4.block k (by omega)).trans (b12.block k hk))
  have K5 : KF (fun k => k = G ∨ vr.ownBlock = some k) w w5 := ⟨hg.os.trans (hb4.os.trans b12.os), hg.tape.trans (hb4.tape.trans b12.tape), hg.output.trans (hb4.output.trans b12.output), Nat.le_trans b12.size (Nat.le_trans h24 hg.size), fun x hx hr => low x hx (fun e => hr (.inr e))⟩
  have slt : ∀ k, vr.ownBlock = some k → k < w.heap.size := fun k e => (s.or_.lt k e).2
  have rlt : ∀ k, vs.ownBlock = some k → k < w.heap.size := fun k e => (s.os.lt k e).2
  have nlt : ∀ k, vr'.ownBlock = some k → k ≠ G ∧ k ≠ w.heap.size + 1 ∧ vs.ownBlock ≠ some k := by
    intro k e
    rcases hat with q | q
    · have e' := q.symm.trans e
      have := slt k e'
      exact ⟨fun q => s.gr (by rw [← q]; exact e'), by omega, fun q => s.ap k q e'⟩
    · have e' : w4.heap.size = k := by simpa using q.symm.trans e
      exact ⟨by omega, by omega, fun q => by have := rlt k q; omega⟩
  refine ⟨⟨?_, ?_, ?_, fun k e q => (nlt k q).2.2 e, s.gs, fun e => (nlt G e).1 rfl⟩, ?_, ?_⟩
  · rw [setRow_other _ _ _ _ (by omega), Ba.heap_setCell_same ((low G hlt s.gr).trans s.hp), rcl_recd st vs vr vr' l]
  · refine own_blk s.os fun g e => ?_
    have := rlt g e
    rw [setRow_other _ _ _ _ (by omega), heap_set_other _ _ _ _ _ (fun q => s.gs (by rw [← q]; exact e)), low g this (fun q => s.ap g e q)]
  · refine own_blk ho fun g e => ?_
    obtain ⟨n1, n2, -⟩ := nlt g e
    rw [setRow_other _ _ _ _ (by omega), heap_set_other _ _ _ _ _ n1]
  · rcases hat with q | q
    · exact .inl q
    · exact .inr ⟨_, q, by omega⟩
  · exact kf_setRow (K5.set (.inl rfl) 2 vr') (by omega) cs
set_option maxRecDepth 100000 in
set_option maxHeartbeats 800000 in
theorem rrecv_none {w : World} {G : Nat} {st : Rst} {vs vr : Value} (s : RX w G st vs vr) (F : Nat → Int) (hp : rpk st false = none) :
    Calls Try.prog 14 #[.pointer (some ⟨G, 0, none⟩), .agg (ra F)] w fun r w' => r = .returned (.tuple #[.agg (rfv none), .int .i64 6]) ∧ Below w.heap.size w w' := by
  have hlt := s.lt
  have zf := zero_f
  have b1 := btr (below_alloc w (.cells (ra F) 39)) (below_alloc _ (.cells (fe nf false) 44))
  have PK := hide (rpeek_recv (s.below b1))
  rw [hp] at PK
  have erv : rfv none = fe nf false := rfl
  rw [erv] at PK ⊢
  clear s hp erv
  go_enter Try.func14, Try.ntmps14
  go_wp2_with fail
  refine PK.out.mono ?_
  rintro r w2 ⟨rfl, b2⟩
  have hz2 : w.heap.size + 1 < w2.heap.size := by have := b2.size; rw [World.size_alloc, World.size_alloc] at this; omega
  have hZ2 : w2.heap[w.heap.size + 1]? = some (.cells (fe nf false) 44 (0, 0)) := by
    have := heap_new (w.alloc (.cells (ra F) 39)) (.cells (fe nf false) 44)
    rw [World.size_alloc] at this
    exact Ba.heap_below this b2
  have stf := sc_fe nf false (heap_new w2 (.cells (fe nf false) 44)) (fe_size nf false)
  rw [setRow_fe] at stf
  have c256 : (w2.alloc (.cells (fe nf false) 44)).cell? ⟨w2.heap.size, 256, none⟩ = some (.bool false) := (cell_of (heap_new w2 _) 256).trans (fe_last nf false)
  have hZ3 := Ba.heap_below hZ2 (below_alloc w2 (.cells (fe nf false) 44))
  have LD7 := hide (ldv_fe (heap_new w2 (.cells (fe nf false) 44)))
  have stf4 := sc_fe nf false hZ3 (fe_size nf false)
  have HY : Hid (((w2.alloc (.cells (fe nf false) 44)).setRow (w.heap.size + 1) (fe nf false)).heap[w.heap.size + 1]? = some (.cells (fe nf false) 44 (0, 0))) := setRow_heap _ _ _ _ _ _ hZ3
  have LDY := hide (ldv_fe HY.out)
  have BY : Hid (Below w.heap.size w ((w2.alloc (.cells (fe nf false) 44)).setRow (w.heap.size + 1) (fe nf false))) := below_setRow (btr (btr b1 b2) (below_alloc _ _)) (by omega) _
  have as_ := ra_size F
  have zs := fe_size nf false
  clear HY PK b1 hZ2 hZ3 b2
  generalize ra F = A at *
  generalize hR : fe nf false = Z at *
  go_wp2_with (refine wpL_load rfl 44 _ rfl _ _ rfl LD7.out ?_)
  exact bodyPost_ret (Ba.results_row2 Try.results14 _ _ _ _ _ rfl rfl LDY.out) rfl ⟨(by rw [hR]; rfl), BY.out⟩
set_option maxRecDepth 100000 in
set_option maxHeartbeats 3200000 in
theorem rrecv_ok {w : World} {G : Nat} {st : Rst} {vs vr : Value} (s : RX w G st vs vr) (F F' : Nat → Int) (hp : rpk st false = some F') (hl : st.recd.length ≤ 100000) :
    Calls Try.prog 14 #[.pointer (some ⟨G, 0, none⟩), .agg (ra F)] w fun r w' => r = .returned (.tuple #[.agg (rfv (rpk st false)), .int .i64 0]) ∧ ∃ vr', RX w' G { st with recd := st.recd ++ [F] } vs vr' ∧ (vr'.ownBlock = vr.ownBlock ∨ ∃ N, vr'.ownBlock = some N ∧ w.heap.size ≤ N) ∧ KF (fun k => k = G ∨ vr.ownBlock = some k) w w' := by
  obtain ⟨oa, ca, rfl⟩ := own_sl' s.os
  obtain ⟨ob, cb, rfl⟩ := own_sl' s.or_
  obtain ⟨y0, y1, y2, y3⟩ := s.cells
  have hlt := s.lt
  have zf := zero_f
  have b1 := btr (below_alloc w (.cells (ra F) 39)) (below_alloc _ (.cells (fe nf false) 44))
  have PK := hide (rpeek_recv (s.below b1))
  have hfe : rfv (rpk st false) = fe F' true := by rw [hp]; rfl
  rw [hfe] at PK ⊢
  obtain ⟨x', hx'⟩ : ∃ x' : Bool, x' = true := ⟨true, rfl⟩
  have HS := hide s
  clear s hp
  rw [← hx'] at PK ⊢
  all_goals
    go_enter Try.func14, Try.ntmps14
    go_wp2_with fail
    refine PK.out.mono ?_
    rintro r w2 ⟨rfl, b2⟩
    have b12 := btr b1 b2
    have S2 := hide (HS.out.below b12)
    have hz2 : w.heap.size + 1 < w2.heap.size := by have := b2.size; rw [World.size_alloc, World.size_alloc] at this; omega
    have hA2 : w2.heap[w.heap.size]? = some (.cells (ra F) 39 (0, 0)) := Ba.heap_below (Ba.heap_below (heap_new w (.cells (ra F) 39)) (below_alloc _ _)) b2
    have hZ2 : w2.heap[w.heap.size + 1]? = some (.cells (fe nf false) 44 (0, 0)) := by
      have := heap_new (w.alloc (.cells (ra F) 39)) (.cells (fe nf false) 44)
      rw [World.size_alloc] at this
      exact Ba.heap_below this b2
    have stf := sc_fe F' x' (heap_new w2 (.cells (fe nf false) 44)) (fe_size nf false)
    rw [setRow_fe] at stf
    have hrs := fe_size F' x'
    -- the world behind the fetched one's own block, and behind the draw
    have bw3 : Below w2.heap.size w2 (w2.alloc (.cells (fe F' x') 44)).drew := btr (below_alloc w2 (.cells (fe F' x') 44)) (Ba.bdrew1 _)
    have S3 := hide (S2.out.below bw3)
    have hA3 := Ba.heap_below hA2 bw3
    have lc : (loadCellsFrom ⟨w.heap.size, 0, none⟩ 0 256 #[]).run Try.prog (w2.alloc (.cells (fe F' x') 44)).drew = .ok (ra F) (w2.alloc (.cells (fe F' x') 44)).drew := ld_ref (RA.of hA3)
    obtain ⟨LC, hLC⟩ : ∃ LC : Nat → Sem (Array Value), ∀ n, loadCellsFrom (⟨w.heap.size, 0, none⟩ : Addr) 0 n #[] = LC n := ⟨fun n => loadCellsFrom (⟨w.heap.size, 0, none⟩ : Addr) 0 n #[], fun _ => rfl⟩
    rw [hLC] at lc
    have y12 : w2.cell? ⟨G, 2, none⟩ = some (.slice ob st.recd.length cb) := S2.out.cells.2.2.1
    have hG2 : G < w2.heap.size := S2.out.lt
    have hs4 := size_ad1 w2 (.cells (fe F' x') 44)
    obtain ⟨v', w5, hr5, ho5, hg5, hat5⟩ := rapp F (w2.heap.size + 1) (own_below' S3.out.or_ (below_alloc _ (.cells (ra F) 39))) (by have := heap_new (w2.alloc (.cells (fe F' x') 44)).drew (.cells (ra F) 39); rw [hs4] at this; exact this) (by omega)
    obtain ⟨oa', ca', hv5⟩ := own_sl' ho5
    obtain ⟨n', hn'⟩ : ∃ n' : Nat, n' = (st.recd ++ [F]).length := ⟨_, rfl⟩
    rw [← hn'] at hv5
    subst hv5
    clear hn'
    have HR := hide hr5
    have own_lt : ∀ k, (Value.slice ob st.recd.length cb).ownBlock = some k → k < w.heap.size := fun k e => (HS.out.or_.lt k e).2
    have hb4 : Below w2.heap.size w2 ((w2.alloc (.cells (fe F' x') 44)).drew.alloc (.cells (ra F) 39)) := btr bw3 (below_alloc _ _)
    have hs5 : ((w2.alloc (.cells (fe F' x') 44)).drew.alloc (.cells (ra F) 39)).heap.size = w2.heap.size + 1 + 1 := by rw [World.size_alloc, hs4]
    have blk5 : ∀ k, k < w2.heap.size → (Value.slice ob st.recd.length cb).ownBlock ≠ some k → w5.heap[k]? = w2.heap[k]? := fun k hk hne => (hg5.block k (by rw [hs5]; omega) (fun e => hne e.symm)).trans (hb4.block k hk)
    have hG5 : w5.heap[G]? = some (.cells (rcl st (.slice oa st.sent.length ca) (.slice ob st.recd.length cb)) 96 (0, 0)) := (blk5 G hG2 HS.out.gr).trans S2.out.hp
    have hR5 : w5.heap[w2.heap.size]? = some (.cells (fe F' x') 44 (0, 0)) := (hg5.block w2.heap.size (by rw [hs5]; omega) (fun e => by have := own_lt _ e.symm; omega)).trans (Ba.heap_below (Ba.heap_below (heap_new w2 _) (Ba.bdrew1 _)) (below_alloc _ _))
    have hZ5 : w5.heap[w.heap.size + 1]? = some (.cells (fe nf false) 44 (0, 0)) := (blk5 _ hz2 (fun e => by have := own_lt _ e; omega)).trans hZ2
    have y15 : w5.cell? ⟨G, 2, none⟩ = some (.slice ob st.recd.length cb) := (cell_of hG5 2).trans (rcl_lt _ _ _ 2 (by decide))
    have f15 : w5.frozen? ⟨G, 2, none⟩ = false := frozen_of hG5 2
    have hR6 : (w5.setCell ⟨G, 2, none⟩ (.slice oa' n' ca')).heap[w2.heap.size]? = some (.cells (fe F' x') 44 (0, 0)) := (heap_set_other _ _ _ _ _ (by omega)).trans hR5
    have hZ6 : (w5.setCell ⟨G, 2, none⟩ (.slice oa' n' ca')).heap[w.heap.size + 1]? = some (.cells (fe nf false) 44 (0, 0)) := (heap_set_other _ _ _ _ _ (by omega)).trans hZ5
    have LD7 := hide (ldv_fe hR6)
    have stf4 := sc_fe F' x' hZ6 (fe_size nf false)
    have HY : Hid (((w5.setCell ⟨G, 2, none⟩ (.slice oa' n' ca')).setRow (w.heap.size + 1) (fe F' x')).heap[w.heap.size + 1]? = some (.cells (fe F' x') 44 (0, 0))) := setRow_heap _ _ _ _ _ _ hZ6
    have FIN : Hid (RX ((w5.setCell ⟨G, 2, none⟩ (.slice oa' n' ca')).setRow (w.heap.size + 1) (fe F' x')) G { st with recd := st.recd ++ [F] } (.slice oa st.sent.length ca) (.slice oa' n' ca') ∧ ((Value.slice oa' n' ca').ownBlock = (Value.slice ob st.recd.length cb).ownBlock ∨ ∃ N, (Value.slice oa' n' ca').ownBlock = some N ∧ w.heap.size ≤ N) ∧ KF (fun k => k = G ∨ (Value.slice ob st.recd.length cb).ownBlock = some k) w ((w5.setCell ⟨G, 2, none⟩ (.slice oa' n' ca')).setRow (w.heap.size + 1) (fe F' x'))) := rrecv_fin HS.out b12 hz2 hb4 ho5 hg5 hat5
    clear hr5 ho5 hg5 hat5 hb4 hs5 blk5 hG5 hR5 hZ5 hR6 hZ6 own_lt hA2 hZ2 hA3 bw3 hs4 b2 b12
    have LDY := hide (ldv_fe HY.out)
    have c256 : (w2.alloc (.cells (fe F' x') 44)).cell? ⟨w2.heap.size, 256, none⟩ = some (.bool true) := by rw [← hx']; exact (cell_of (heap_new w2 _) 256).trans (fe_last F' x')
    clear hx'
    have as_ := ra_size F
    have zs := fe_size nf false
    have zc := zero_ref
    have fo := fold_r F
    have z0s := ra_size nf
    clear HY PK HS b1 S2 S3
    generalize ra F = A at *
    generalize ra nf = Z0 at *
    generalize hrg : Array.range 256 = RG at *
    generalize hR : fe F' x' = R at *
    generalize fe nf false = Z at *
    go_wp2_with fail
    go_region_law (refine step_append_run _ (by rfl) _ _ _ _ (by rfl) _ _ (by rfl) (by rfl) _ _ HR.out ?_)
    all_goals
      go_wp2_with (refine wpL_load rfl 44 _ rfl _ _ rfl LD7.out ?_)
      exact bodyPost_ret (Ba.results_row2 Try.results14 _ _ _ _ _ rfl rfl LDY.out) rfl ⟨(by rw [hR]; rfl), _, FIN.out⟩
end Sl
end Go.Proofs.Ytekdcfdjohlfcaa
