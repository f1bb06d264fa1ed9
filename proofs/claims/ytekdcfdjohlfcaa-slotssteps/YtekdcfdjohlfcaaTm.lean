/- The reference's slots: Send, over this seat's program. -/
import Derived.Test.YtekdcfdjohlfcaaTl
namespace Go.Proofs.Ytekdcfdjohlfcaa
open Go.ChangeShapes Go.WideShapes Go.ChangeAt Go.RowKit
namespace Sl
open Ck
open Ba (KF Bd Nw)

theorem size_ad1 (w : World) (o : Obj) : (w.alloc o).drew.heap.size = w.heap.size + 1 := World.size_alloc w o
theorem size_ad2 (w : World) (o o' : Obj) : ((w.alloc o).alloc o').drew.heap.size = w.heap.size + 1 + 1 := by
  rw [size_ad1, World.size_alloc]
theorem rpeek_any {w : World} {G : Nat} {st : Rst} {vs vr : Value} (s : RX w G st vs vr) (hl : st.sent.length ≤ 1000000) (hz : st.sz ≤ 4) :
    Calls Try.prog 40 #[.pointer (some ⟨G, 0, none⟩), .bool true] w fun r w' => r = .returned (.agg (rfv (rpk st true))) ∧ Below w.heap.size w w' := by
  cases h : rpk st true with
  | none => exact rpeek_no s h hl hz
  | some F => exact rpeek_yes s h hl hz
theorem rfv_fe (p : Option (Nat → Int)) : ∃ F x, rfv p = fe F x := by
  cases p with
  | none => exact ⟨nf, false, rfl⟩
  | some F => exact ⟨F, true, rfl⟩
theorem ldv_fe {w : World} {b : Nat} {F : Nat → Int} {x : Bool} {t : TypeId} (h : w.heap[b]? = some (.cells (fe F x) t (0, 0))) : (loadVar 44 ⟨b, 0, none⟩).run Try.prog w = .ok (.agg (fe F x)) w :=
  run_loadVar_row w b t _ _ _ _ h Try.underlying44 rfl (by rw [size_f, fe_size])
theorem info_rc : (Try.prog.info? 39).map (fun i => (i.zero, i.size, i.bytes)) = some (some (.agg (ra nf)), 256, 2048) := by kernel_rfl
set_option maxRecDepth 100000 in
theorem fold_r (F : Nat → Int) : Array.foldl (fun cs x => cs.setIfInBounds x.snd x.fst) (Array.map (fun x => (ra nf)[x % 256]!) (Array.range 256)) (ra F).zipIdx 0 256 = ra F := by kernel_rfl
/-- what an append of one clock leaves -/
theorem rapp {w : World} {v : Value} {Fs : List (Nat → Int)} (F : Nat → Int) (b : Nat) (hv : w.ownsRow 0 39 256 v Fs.length (rcs Fs)) (hb : w.heap[b]? = some (.cells (ra F) 39 (0, 0))) (hl : Fs.length ≤ 1000000) :
    ∃ v' w', (Builtin.append_ #[94, 94] 94 #[v, .slice (some ⟨b, 0, none⟩) 1 1]).run Try.prog w = .ok v' w' ∧ w'.ownsRow 0 39 256 v' (Fs ++ [F]).length (rcs (Fs ++ [F])) ∧ w.grownBy w' v.ownBlock ∧ (v'.ownBlock = v.ownBlock ∨ v'.ownBlock = some w.heap.size) := by
  cases hi : Try.prog.info? 39 with
  | none => have := info_rc; rw [hi] at this; cases this
  | some i0 =>
  have hq := info_rc
  rw [hi] at hq
  simp only [Option.map_some, Option.some.injEq, Prod.mk.injEq] at hq
  obtain ⟨v', w', hr, ho, hgr, -, hat⟩ := run_append_own_at (P := Try.prog) w 0 94 94 39 i0 (.agg (ra nf)) 256 2048 Try.underlying94 hi hq.1 hq.2.1 hq.2.2 (ra_size nf) (by decide) v Fs.length (rcs Fs) hv ⟨b, 0, none⟩ 1 1 (rcs [F]) (by rw [rcs_len]; rfl) (fun j u hj => by
    rw [rcs_one, Array.getElem?_toList] at hj
    rw [Addr.add_lit, Nat.zero_add, cell_of hb]
    exact hj) (rcs_cells [F]) (by unfold maxLen; omega) (by omega) (Nat.zero_le _)
  exact ⟨v', w', hr, by rw [List.length_append, rcs_app]; exact ho, hgr, hat⟩
theorem own_blk {w w' : World} {e : TypeId} {size : Nat} {v : Value} {n : Nat} {xs : List Value} (h : w.ownsRow 0 e size v n xs) (hb : ∀ g, v.ownBlock = some g → w'.heap[g]? = w.heap[g]?) : w'.ownsRow 0 e size v n xs := by
  refine ⟨h.1, ?_⟩
  rcases h.2 with q | ⟨g, cap, cr, e, h0, hg, q⟩
  · exact .inl q
  · exact .inr ⟨g, cap, cr, e, h0, (hb g (by rw [e]; rfl)).trans hg, q⟩
theorem kf_setRow {F : Nat → Prop} {a b : World} {z : Nat} (h : KF F a b) (hz : a.heap.size ≤ z) (cs : Array Value) : KF F a (b.setRow z cs) :=
  ⟨h.os, h.tape, h.output, by simpa using h.size, fun x hx hr => (setRow_other b z x cs (by omega)).trans (h.block x hx hr)⟩
theorem rcl_sent (st : Rst) (vs vr vs' : Value) (l : List (Nat → Int)) : (rcl st vs vr).setIfInBounds 1 vs' = rcl { st with sent := l } vs' vr := by
  unfold rcl
  rw [Array.setIfInBounds_append_left (by simp)]
  rfl
theorem rcl_recd (st : Rst) (vs vr vr' : Value) (l : List (Nat → Int)) : (rcl st vs vr).setIfInBounds 2 vr' = rcl { st with recd := l } vs vr' := by
  unfold rcl
  rw [Array.setIfInBounds_append_left (by simp)]
  rfl
theorem rsend_fin {w w2 w4 w5 : World} {G : Nat} {st : Rst} {vs vs' vr : Value} {l : List (Nat → Int)} {cs : Array Value}
    (s : RX w G st vs vr) (b12 : Below w.heap.size w w2) (hz2 : w.heap.size + 1 < w2.heap.size) (hb4 : Below w2.heap.size w2 w4)
    (ho : w5.ownsRow 0 39 256 vs' l.length (rcs l)) (hg : w4.grownBy w5 vs.ownBlock) (hat : vs'.ownBlock = vs.ownBlock ∨ vs'.ownBlock = some w4.heap.size) :
    RX ((w5.setCell ⟨G, 1, none⟩ vs').setRow (w.heap.size + 1) cs) G { st with sent := l } vs' vr ∧ (vs'.ownBlock = vs.ownBlock ∨ ∃ N, vs'.ownBlock = some N ∧ w.heap.size ≤ N) ∧ KF (fun k => k = G ∨ vs.ownBlock = some k) w ((w5.setCell ⟨G, 1, none⟩ vs').setRow (w.heap.size + 1) cs) := by
  have h24 := hb4.size
  have hlt := s.lt
  have low : ∀ k, k < w.heap.size → vs.ownBlock ≠ some k → w5.heap[k]? = w.heap[k]? := fun k hk hne => (hg.block k (by omega) (fun e => hne e.symm)).trans ((hb4.block k (by omega)).trans (b12.block k hk))
  have K5 : KF (fun k => k = G ∨ vs.ownBlock = some k) w w5 := ⟨hg.os.trans (hb4.os.trans b12.os), hg.tape.trans (hb4.tape.trans b12.tape), hg.output.trans (hb4.output.trans b12.output), Nat.le_trans b12.size (Nat.le_trans h24 hg.size), fun x hx hr => low x hx (fun e => hr (.inr e))⟩
  have slt : ∀ k, vs.ownBlock = some k → k < w.heap.size := fun k e => (s.os.lt k e).2
  have rlt : ∀ k, vr.ownBlock = some k → k < w.heap.size := fun k e => (s.or_.lt k e).2
  have nlt : ∀ k, vs'.ownBlock = some k → k ≠ G ∧ k ≠ w.heap.size + 1 ∧ vr.ownBlock ≠ some k := by
    intro k e
    rcases hat with q | q
    · have e' := q.symm.trans e
      have := slt k e'
      exact ⟨fun q => s.gs (by rw [← q]; exact e'), by omega, s.ap k e'⟩
    · have e' : w4.heap.size = k := by simpa using q.symm.trans e
      exact ⟨by omega, by omega, fun q => by have := rlt k q; omega⟩
  refine ⟨⟨?_, ?_, ?_, ?_, ?_, ?_⟩, ?_, ?_⟩
  · rw [setRow_other _ _ _ _ (by omega), Ba.heap_setCell_same ((low G hlt s.gs).trans s.hp), rcl_sent st vs vr vs' l]
  · refine own_blk ho fun g e => ?_
    obtain ⟨n1, n2, -⟩ := nlt g e
    rw [setRow_other _ _ _ _ (by omega), heap_set_other _ _ _ _ _ n1]
  · refine own_blk s.or_ fun g e => ?_
    have := rlt g e
    rw [setRow_other _ _ _ _ (by omega), heap_set_other _ _ _ _ _ (fun q => s.gr (by rw [← q]; exact e)), low g this (fun q => s.ap g q e)]
  · exact fun k e => (nlt k e).2.2
  · exact fun e => (nlt G e).1 rfl
  · exact s.gr
  · rcases hat with q | q
    · exact .inl q
    · exact .inr ⟨_, q, by omega⟩
  · exact kf_setRow (K5.set (.inl rfl) 1 vs') (by omega) cs
end Sl
end Go.Proofs.Ytekdcfdjohlfcaa
