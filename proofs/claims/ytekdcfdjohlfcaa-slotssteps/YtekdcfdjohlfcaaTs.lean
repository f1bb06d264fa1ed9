/- The reference's slots: one clock of a row is set, over this seat's program. -/
import Derived.Test.YtekdcfdjohlfcaaTq
namespace Go.Proofs.Ytekdcfdjohlfcaa
open Go.ChangeShapes Go.WideShapes Go.ChangeAt Go.RowKit
namespace Sl
open Ck
open Ba (KF Bd Nw)

/-- nought at a tid -/
def zf (t : Int) (F : Nat → Int) : Nat → Int := fun j => if okT t = true ∧ j = t.toNat then 0 else F j
theorem zf_no {t : Int} (h : okT t = false) (F : Nat → Int) : zf t F = F := by
  funext j
  unfold zf
  rw [if_neg (by rw [h]; simp)]
theorem zf_yes {t : Int} (h : okT t = true) (F : Nat → Int) (j : Nat) : zf t F j = if j = t.toNat then 0 else F j := by
  unfold zf
  simp [h]
theorem rset_z {w : World} {b off : Nat} {F : Nat → Int} (t : Int) (h : RA w b off F) :
    Calls Try.prog 44 #[.pointer (some ⟨b, off, none⟩), .int .i64 t, .int .i64 0] w fun r w' => ∃ x, r = .returned (.int .i64 x) ∧ (okT t = false ∧ w' = w ∨ okT t = true ∧ t.toNat < 256 ∧ w' = w.setCell ⟨b, off + t.toNat, none⟩ (.int .i64 0)) := by
  cases ho : okT t with
  | false =>
    refine (rset_no _ t 0 w (.inl ho)).mono ?_
    rintro r w' ⟨rfl, rfl⟩
    exact ⟨_, rfl, .inl ⟨rfl, rfl⟩⟩
  | true =>
    obtain ⟨t1, t2⟩ := (okT_iff t).1 ho
    have e0 : t = ((t.toNat : Nat) : Int) := by omega
    have := rset_ok b off F t.toNat 0 w h (by omega) (by decide)
    rw [← e0] at this
    refine this.mono ?_
    rintro r w' ⟨rfl, rfl⟩
    exact ⟨_, rfl, .inr ⟨rfl, by omega, rfl⟩⟩
theorem rset_blk {w w' : World} {b : Nat} {F : Nat → Int} {t : Int} {ty : TypeId} (h : w.heap[b]? = some (.cells (ra F) ty (0, 0))) (e : okT t = false ∧ w' = w ∨ okT t = true ∧ t.toNat < 256 ∧ w' = w.setCell ⟨b, 0 + t.toNat, none⟩ (.int .i64 0)) : w'.heap[b]? = some (.cells (ra (zf t F)) ty (0, 0)) ∧ KF (fun k => k = b) w w' := by
  rcases e with ⟨q, rfl⟩ | ⟨q, q2, rfl⟩
  · rw [zf_no q]
    exact ⟨h, KF.refl _ _⟩
  · refine ⟨?_, KF.set (F := fun k => k = b) (q := b) (KF.refl (fun k => k = b) w) rfl _ _⟩
    rw [Ba.heap_setCell_same h, Nat.zero_add, ra_set F (zf t F) t.toNat 0 q2 (zf_yes q F)]
theorem rcl_put (st : Rst) (vs vr : Value) (t : Int) (h : okT t = true) (h2 : t.toNat < 256) : (rcl st vs vr).setIfInBounds (4 + t.toNat) (.int .i64 0) = rcl { st with clg := zf t st.clg } vs vr := by
  unfold rcl
  rw [Array.setIfInBounds_append_right (by simp)]
  have e : 4 + t.toNat - (#[Value.int .i64 (st.sz : Int), vs, vr, .bool st.closed]).size = t.toNat := by simp
  rw [e, ra_set st.clg (zf t st.clg) t.toNat 0 h2 (zf_yes h st.clg)]
theorem rset_clg {w w' : World} {G : Nat} {st : Rst} {vs vr : Value} {t : Int} (s : RX w G st vs vr) (e : okT t = false ∧ w' = w ∨ okT t = true ∧ t.toNat < 256 ∧ w' = w.setCell ⟨G, 4 + t.toNat, none⟩ (.int .i64 0)) : RX w' G { st with clg := zf t st.clg } vs vr ∧ KF (fun k => k = G) w w' := by
  rcases e with ⟨q, rfl⟩ | ⟨q, q2, rfl⟩
  · rw [zf_no q]
    exact ⟨s, KF.refl _ _⟩
  · refine ⟨⟨?_, own_blk s.os fun g e => heap_set_other _ _ _ _ _ (fun q => s.gs (by rw [← q]; exact e)), own_blk s.or_ fun g e => heap_set_other _ _ _ _ _ (fun q => s.gr (by rw [← q]; exact e)), s.ap, s.gs, s.gr⟩, KF.set (F := fun k => k = G) (q := G) (KF.refl (fun k => k = G) w) rfl _ _⟩
    rw [Ba.heap_setCell_same s.hp, rcl_put st vs vr t q q2]
theorem rcs_cons (F : Nat → Int) (Fs : List (Nat → Int)) : rcs (F :: Fs) = (ra F).toList ++ rcs Fs := rfl
theorem rcs_set (Fs : List (Nat → Int)) (k : Nat) (F' : Nat → Int) (hk : k < Fs.length) : (rcs Fs).take (k * 256) ++ (ra F').toList ++ (rcs Fs).drop (k * 256 + 256) = rcs (Fs.set k F') := by
  have e : rcs Fs = rcs (Fs.take k) ++ ((ra Fs[k]).toList ++ rcs (Fs.drop (k + 1))) := by
    rw [← rcs_cons, ← rcs_app, List.getElem_cons_drop, List.take_append_drop]
  have lt : (rcs (Fs.take k)).length = k * 256 := by rw [rcs_len, List.length_take, Nat.min_eq_left (by omega)]
  rw [List.set_eq_take_append_cons_drop, if_pos hk, rcs_app, rcs_cons]
  have e1 : (rcs Fs).take (k * 256) = rcs (Fs.take k) := by rw [e]; exact List.take_left' lt
  have e2 : (rcs Fs).drop (k * 256 + 256) = rcs (Fs.drop (k + 1)) := by
    rw [e, ← List.append_assoc]
    exact List.drop_left' (by rw [List.length_append, lt, ra_len])
  rw [e1, e2, List.append_assoc]
set_option maxRecDepth 100000 in
theorem own_setRow {w : World} {g k n c : Nat} {Fs : List (Nat → Int)} (F' : Nat → Int) (h : w.ownsRow 0 39 256 (.slice (some ⟨g, 0, none⟩) n c) n (rcs Fs)) (hn : Fs.length = n) (hk : k < n) : (w.setCells g (k * 256) (ra F').toList).ownsRow 0 39 256 (.slice (some ⟨g, 0, none⟩) n c) n (rcs (Fs.set k F')) := by
  rcases h.2 with ⟨e, -⟩ | ⟨g', cap', cur, e, h0, hg, hle, hmx, hsz, htk⟩
  · cases e
  · cases e
    have hrl : (rcs Fs).length = n * 256 := by rw [rcs_len, hn]
    have hkn : k * 256 + 256 ≤ n * 256 := by omega
    have hnc : n * 256 ≤ c * 256 := Nat.mul_le_mul_right _ hle
    have h9 := setCells_heap g 39 (0, 0) (ra F').toList (k * 256) cur w hg (by rw [ra_len, hsz]; omega)
    have ec : cur.toList = rcs Fs ++ cur.toList.drop (n * 256) := by rw [← htk, List.take_append_drop]
    have el : cur.toList.take (k * 256) ++ (ra F').toList ++ cur.toList.drop (k * 256 + (ra F').toList.length) = rcs (Fs.set k F') ++ cur.toList.drop (n * 256) := by
      rw [ra_len, ← rcs_set Fs k F' (by omega), List.append_assoc _ _ (cur.toList.drop (n * 256))]
      have a1 : cur.toList.take (k * 256) = (rcs Fs).take (k * 256) := by
        rw [← htk, List.take_take, Nat.min_eq_left (by omega)]
      have a2 : cur.toList.drop (k * 256 + 256) = (rcs Fs).drop (k * 256 + 256) ++ cur.toList.drop (n * 256) := by
        conv => lhs; rw [ec]
        rw [List.drop_append_of_le_length (by omega)]
      rw [a1, a2]
    rw [el] at h9
    have sl : (rcs (Fs.set k F')).length = n * 256 := by rw [rcs_len, List.length_set, hn]
    refine ⟨sl, .inr ⟨g, c, _, rfl, h0, h9, hle, hmx, ?_, ?_⟩⟩
    · rw [List.size_toArray, List.length_append, sl, List.length_drop, Array.length_toList, hsz]
      omega
    · rw [List.toList_toArray]
      exact List.take_left' sl
theorem RX.setSent {w : World} {G g k n c : Nat} {st : Rst} {vr : Value} (s : RX w G st (.slice (some ⟨g, 0, none⟩) n c) vr) (hn : st.sent.length = n) (hk : k < n) (F' : Nat → Int) : RX (w.setCells g (k * 256) (ra F').toList) G { st with sent := st.sent.set k F' } (.slice (some ⟨g, 0, none⟩) n c) vr := by
  have os := s.os
  rw [hn] at os
  have hgG : g ≠ G := fun e => s.gs (by rw [e]; rfl)
  refine ⟨(heap_cells g _ _ w G (fun e => hgG e.symm)).trans s.hp, ?_, own_blk s.or_ fun x e => heap_cells g _ _ w x (fun q => s.ap g rfl (by rw [← q]; exact e)), s.ap, s.gs, s.gr⟩
  show World.ownsRow _ 0 _ 256 _ (st.sent.set k F').length _
  rw [List.length_set, hn]
  exact own_setRow F' os hn hk
theorem RX.setRecd {w : World} {G g k n c : Nat} {st : Rst} {vs : Value} (s : RX w G st vs (.slice (some ⟨g, 0, none⟩) n c)) (hn : st.recd.length = n) (hk : k < n) (F' : Nat → Int) : RX (w.setCells g (k * 256) (ra F').toList) G { st with recd := st.recd.set k F' } vs (.slice (some ⟨g, 0, none⟩) n c) := by
  have os := s.or_
  rw [hn] at os
  have hgG : g ≠ G := fun e => s.gr (by rw [e]; rfl)
  refine ⟨(heap_cells g _ _ w G (fun e => hgG e.symm)).trans s.hp, own_blk s.os fun x e => heap_cells g _ _ w x (fun q => s.ap x e (by rw [q]; rfl)), ?_, s.ap, s.gs, s.gr⟩
  show World.ownsRow _ 0 _ 256 _ (st.recd.set k F').length _
  rw [List.length_set, hn]
  exact own_setRow F' os hn hk
end Sl
end Go.Proofs.Ytekdcfdjohlfcaa
