/- Layer 16's reference, over this seat's program: Know. -/
import Derived.Test.YtfimfgffbfjkeaaWr4
namespace Go.Proofs.Ytfimfgffbfjkeaa
open Go.ChangeShapes Go.WideShapes Go.ChangeAt Go.RowKit
namespace Wq
open Ck
open Ba (KF Bd Nw)

theorem KF.drew1 {F : Nat → Prop} {a b : World} (h : KF F a b) : KF F a b.drew := ⟨h.os, h.tape, h.output, h.size, h.block⟩
section
variable {w w' : World} {G : Nat} {st : Qst} {v : Value}
set_option maxRecDepth 100000 in
set_option maxHeartbeats 800000 in
theorem know_no (s : QX w G st v) (g : Int) (H : Nat → Int) (hl : st.L.length ≤ 100000) (h : at_ st.L g = -1) :
    Calls Try.prog 30 #[.pointer (some ⟨G, 0, none⟩), .int .i64 g, .agg (ra H)] w fun r w' => r = .returned (.int .i64 6) ∧ Below w.heap.size w w' := by
  have bA := below_alloc w (.cells (ra H) 59)
  have A := hide (at_any (s.below bA) g hl)
  rw [h] at A
  have B0 := hide bA
  have hs := ra_size H
  clear s h bA
  generalize ra H = VH at *
  go_enter Try.func30, Try.ntmps30
  go_wp2_with fail
  refine A.out.mono ?_
  rintro r w1 ⟨rfl, b1⟩
  have B1 := hide (btr B0.out b1)
  clear b1
  go_wp2_with fail
  go_ret
  exact ⟨rfl, B1.out⟩
theorem ra_blk {w w' : World} {b off : Nat} {F : Nat → Int} (h : RA w b off F) (e : w'.heap[b]? = w.heap[b]?) : RA w' b off F := fun k hk => ⟨(World.cell?_of_block (w := w) (a := ⟨b, off + k, none⟩) e).trans (h k hk).1, (World.frozen?_of_block e).trans (h k hk).2⟩
theorem rj_kf {W wr : World} {b off : Nat} {F : Nat → Int} (h : RJ W b off F wr) : KF (fun k => k = b) W wr := ⟨h.2.1, h.2.2.1, h.2.2.2.1, by rw [h.2.2.2.2.1]; exact Nat.le_refl _, fun k _ hk => h.2.2.2.2.2.1 k hk⟩
set_option maxRecDepth 100000 in
set_option maxHeartbeats 3200000 in
theorem know_yes (s : QX w G st v) (g : Int) (H : Nat → Int) (hl : st.L.length ≤ 100000) (k : Nat) (o : On) (h : at_ st.L g = (k : Int)) (hk : st.L[k]? = some o) :
    Calls Try.prog 30 #[.pointer (some ⟨G, 0, none⟩), .int .i64 g, .agg (ra H)] w fun r w' => r = .returned (.int .i64 0) ∧ QX w' G { st with L := st.L.set k ⟨o.g, o.t, jf o.F H 256⟩ } v ∧ KF (fun x => v.ownBlock = some x) w w' := by
  obtain ⟨oa, c, rfl⟩ := own_sl s.ow
  have hkl : k < st.L.length := (List.getElem?_eq_some_iff.1 hk).1
  obtain ⟨b, rfl, ro⟩ := row_ro s.ow hk
  have bA := below_alloc w (.cells (ra H) 59)
  have A := hide (at_any (s.below bA) g hl)
  rw [h] at A
  have B0 := hide bA
  have X0 := hide (heap_new w (.cells (ra H) 59))
  have HS := hide s
  have RO := hide ro
  have HK := hide hk
  have hbb : b < w.heap.size := World.block_lt_of_cell? w _ ro.g
  obtain ⟨n, hn⟩ : ∃ n, st.L.length = n := ⟨_, rfl⟩
  have HN := hide hn
  have CE := hide (fun u (b : Below w.heap.size w u) => (s.below b).cells)
  rw [hn] at CE hkl hl ⊢
  have hkl' : (k : Int) < (n : Int) := by omega
  have hlt := s.lt
  have zr := zero_ref
  have zs := ra_size nf
  have vs_ := ra_size o.F
  have hs_ := ra_size H
  clear s h hk ro hn bA
  obtain ⟨VH, hVH⟩ : ∃ VH, ra H = VH := ⟨_, rfl⟩
  rw [hVH] at A B0 X0 hs_ ⊢
  have HVH := hide hVH
  clear hVH
  go_enter Try.func30, Try.ntmps30
  go_wp2_with fail
  refine A.out.mono ?_
  rintro r w1 ⟨rfl, b1⟩
  have B1 := hide (btr B0.out b1)
  have X1 := hide (Ba.heap_below X0.out b1)
  obtain ⟨-, -, y2⟩ := CE.out w1 B1.out
  have hG1 : G < w1.heap.size := Nat.lt_of_lt_of_le hlt B1.out.size
  have LD := hide (ldv_ref (RO.out.below B1.out).F)
  have st1 := st_ref o.F (heap_new w1 (.cells (ra nf) 59)) (ra_size nf)
  rw [setRow_new] at st1
  have bA := below_alloc w1 (.cells (ra o.F) 59)
  have B2 := hide (btr B1.out bA)
  have X2 := hide (Ba.heap_below X1.out bA)
  have Y2 := hide (heap_new w1 (.cells (ra o.F) 59))
  have LD2 := hide (ldv_ref (RA.of (show (w1.alloc (.cells (ra o.F) 59)).heap[w.heap.size]? = some (.cells (ra H) 59 (0, 0)) by rw [HVH.out]; exact X2.out)))
  rw [HVH.out] at LD2
  have JN := hide (rjoin_any w1.heap.size 0 o.F H _ (RA.of Y2.out))
  rw [HVH.out] at JN
  have hw1 : w.heap.size ≤ w1.heap.size := B1.out.size
  clear b1 bA
  obtain ⟨V, hV⟩ : ∃ V, ra o.F = V := ⟨_, rfl⟩
  obtain ⟨Z, hZ⟩ : ∃ Z, ra nf = Z := ⟨_, rfl⟩
  rw [hV] at LD st1 B2 X2 Y2 LD2 JN vs_
  rw [hZ] at st1 zr zs
  clear hV hZ
  go_wp2_with (first | refine wpL_load rfl 59 _ rfl _ _ rfl LD.out ?_ | refine wpL_load rfl 59 _ rfl _ _ rfl LD2.out ?_)
  refine JN.out.mono ?_
  rintro r w4 ⟨rfl, rj⟩
  clear st1 zr zs LD LD2 JN y2
  -- behind the Join
  have RJH := hide rj
  have K4 : Hid (KF (fun x => (Value.slice (some ⟨b, 0, none⟩) n c).ownBlock = some x) w w4) := by
    have q := rj_kf rj
    have b9 := btr B2.out (below_alloc (w1.alloc (.cells V 59)) (.cells VH 59))
    refine ⟨q.os.trans b9.os, q.tape.trans b9.tape, q.output.trans b9.output, Nat.le_trans b9.size q.size, fun x hx _ => (q.block x (Nat.lt_of_lt_of_le hx b9.size) (by omega)).trans (b9.block x hx)⟩
  have Q4 : Hid (QX w4 G st (.slice (some ⟨b, 0, none⟩) n c)) := by
    have q := rj_kf rj
    have b9 := btr B2.out (below_alloc (w1.alloc (.cells V 59)) (.cells VH 59))
    have hh := HS.out
    rw [HN.out] at hh
    refine hh.blk fun x hx => ?_
    have hx' := hh.rlt x hx
    exact (q.block x (Nat.lt_of_lt_of_le hx' b9.size) (by omega)).trans (b9.block x hx')
  have y2 : w4.drew.cell? ⟨G, 2, none⟩ = some (.slice (some ⟨b, 0, none⟩) n c) := Q4.out.cells.2.2
  have hG4 : G < w4.drew.heap.size := Q4.out.lt
  have RA4 : Hid (RA w4.drew w1.heap.size 0 (jf o.F H 256)) := RJH.out.1
  have RO4 : Hid (Wq.RO w4.drew b (k * 258) o) := by
    have q := Q4.out.ow
    rw [← HN.out] at q
    obtain ⟨b', e', r'⟩ := row_ro (n := st.L.length) (c := c) (by rw [HN.out] at q ⊢; exact q) HK.out
    cases e'
    exact r'
  obtain ⟨LC, hLC⟩ : ∃ LC : Nat → Sem (Array Value), ∀ n, loadCellsFrom (⟨w1.heap.size, 0, none⟩ : Addr) 0 n #[] = LC n := ⟨fun n => loadCellsFrom (⟨w1.heap.size, 0, none⟩ : Addr) 0 n #[], fun _ => rfl⟩
  obtain ⟨VJ, hVJ⟩ : ∃ VJ, ra (jf o.F H 256) = VJ := ⟨_, rfl⟩
  have LD4 : (LC 256).run Try.prog w4.drew = .ok VJ w4.drew := by rw [← hLC, ← hVJ]; exact ld_ref RA4.out
  have STO := hide (stv_ra (jf o.F H 256) RO4.out.F)
  have FIN : Hid (QX (w4.drew.setCells b (k * 258 + 2) (ra (jf o.F H 256)).toList) G { st with L := st.L.set k ⟨o.g, o.t, jf o.F H 256⟩ } (.slice (some ⟨b, 0, none⟩) n c)) := QX.setF (Q4.out.below (Ba.bdrew1 w4)) HN.out HK.out _
  have KFN : Hid (KF (fun x => (Value.slice (some ⟨b, 0, none⟩) n c).ownBlock = some x) w (w4.drew.setCells b (k * 258 + 2) (ra (jf o.F H 256)).toList)) := kf_setCells (KF.drew1 K4.out) rfl _ _
  have hbG : G ≠ b := fun e => HS.out.ne (by rw [e]; rfl)
  have hb1 : w1.heap.size ≠ b := by omega
  have KP6 : Hid ((w4.drew.setCells b (k * 258 + 2) (ra (jf o.F H 256)).toList).cell? ⟨G, 2, none⟩ = some (.slice (some ⟨b, 0, none⟩) n c) ∧ (LC 256).run Try.prog ((w4.drew.setCells b (k * 258 + 2) (ra (jf o.F H 256)).toList)) = .ok (ra (jf o.F H 256)) ((w4.drew.setCells b (k * 258 + 2) (ra (jf o.F H 256)).toList))) := ⟨(World.cell?_of_block (w := w4.drew) (a := ⟨G, 2, none⟩) (heap_cells b _ _ _ G hbG)).trans y2, by rw [← hLC]; exact ld_ref (ra_blk RA4.out (heap_cells b _ _ _ _ hb1))⟩
  rw [hVJ] at STO FIN KFN KP6
  clear hVJ RJH rj K4 Q4 RA4 RO4
  go_upto_region 6 with fail
  try simp only [List.append_eq, List.cons_append, List.nil_append]
  refine wp_region_held_drew (S := (fun w' => w'.cell? ⟨G, 2, none⟩ = some (.slice (some ⟨b, 0, none⟩) n c) ∧ (LC 256).run Try.prog (w') = .ok VJ (w'))) (by kernel_rfl) ?_ (fun hHeld => ?_)
  · exact ⟨y2, LD4⟩
  refine wpAnyH_take (i := 0) (v := ?_) rfl (by kernel_rfl) (by kernel_rfl) (by kernel_rfl) (fun _ _ _ h => h) (Or.inl ⟨by rfl, ?_⟩) (by assumption) ?_
  rotate_left
  · intro w0 hSw; (try dsimp only at hSw); go_simp <;> with_reducible rfl
  try simp only [Act.put, List.getElem_toArray, List.getElem_cons_zero, List.setIfInBounds_toArray, List.set_cons_zero, List.set_cons_succ]
  refine wpAnyH_take (i := 1) (v := ?_) rfl (by kernel_rfl) (by kernel_rfl) (by kernel_rfl) (fun _ _ _ h => h) (Or.inl ⟨by rfl, ?_⟩) (by assumption) ?_
  rotate_left
  · intro w0 hSw; (try dsimp only at hSw); go_simp <;> with_reducible rfl
  try simp only [Act.put, List.getElem_toArray, List.getElem_cons_zero, List.getElem_cons_succ, List.setIfInBounds_toArray, List.set_cons_zero, List.set_cons_succ]
  refine wpAnyH_take (i := 2) (v := ?_) rfl (by kernel_rfl) (by kernel_rfl) (by kernel_rfl) (fun _ _ _ h => h) (Or.inl ⟨by rfl, ?_⟩) (by assumption) ?_
  rotate_left
  · intro w0 hSw; (try dsimp only at hSw); go_simp <;> with_reducible rfl
  try simp only [Act.put, List.getElem_toArray, List.getElem_cons_zero, List.getElem_cons_succ, List.setIfInBounds_toArray, List.set_cons_zero, List.set_cons_succ]
  refine wpAnyH_take (i := 3) (v := ?_) rfl (by kernel_rfl) (by kernel_rfl) (by kernel_rfl) (fun _ _ _ h => h) (Or.inl ⟨by rfl, ?_⟩) (by assumption) ?_
  rotate_left
  · intro w0 hSw; (try dsimp only at hSw); go_simp <;> with_reducible rfl
  try simp only [Act.put, List.getElem_toArray, List.getElem_cons_zero, List.getElem_cons_succ, List.setIfInBounds_toArray, List.set_cons_zero, List.set_cons_succ]
  refine wpAnyH_take (i := 4) (v := ?_) rfl (by kernel_rfl) (by kernel_rfl) (by kernel_rfl) (fun _ _ _ h => h) (Or.inl ⟨by rfl, ?_⟩) (by assumption) ?_
  rotate_left
  · intro w0 hSw; (try dsimp only at hSw); go_simp <;> with_reducible rfl
  try simp only [Act.put, List.getElem_toArray, List.getElem_cons_zero, List.getElem_cons_succ, List.setIfInBounds_toArray, List.set_cons_zero, List.set_cons_succ]
  refine wpAnyH_take (i := 5) (v := ?_) rfl (by kernel_rfl) (by kernel_rfl) (by kernel_rfl) (fun _ _ _ h => h) (Or.inl ⟨by rfl, ?_⟩) (by assumption) ?_
  rotate_left
  · intro w0 hSw; (try dsimp only at hSw); go_simp <;> with_reducible rfl
  try simp only [Act.put, List.getElem_toArray, List.getElem_cons_zero, List.getElem_cons_succ, List.setIfInBounds_toArray, List.set_cons_zero, List.set_cons_succ]
  refine wpAnyH_take (i := 6) (v := ?_) rfl (by kernel_rfl) (by kernel_rfl) (by kernel_rfl) (fun _ _ _ h => h) (Or.inl ⟨by rfl, ?_⟩) (by assumption) ?_
  rotate_left
  · intro w0 hSw; (try dsimp only at hSw); go_simp <;> with_reducible rfl
  try simp only [Act.put, List.getElem_toArray, List.getElem_cons_zero, List.getElem_cons_succ, List.setIfInBounds_toArray, List.set_cons_zero, List.set_cons_succ]
  refine wpAnyH_take (i := 7) (v := ?_) rfl (by kernel_rfl) (by kernel_rfl) (by kernel_rfl) (fun _ _ _ h => h) (Or.inl ⟨by rfl, ?_⟩) (by assumption) ?_
  rotate_left
  · intro w0 hSw; (try dsimp only at hSw); go_simp <;> with_reducible rfl
  try simp only [Act.put, List.getElem_toArray, List.getElem_cons_zero, List.getElem_cons_succ, List.setIfInBounds_toArray, List.set_cons_zero, List.set_cons_succ]
  refine wpAnyH_ready (rs := [8]) (by kernel_rfl) (by simp) ?_
  refine AllReadyH.cons rfl (fun K hK => ?_) AllReadyH.nil
  refine step_store (by rfl) 59 _ _ (by rfl) ⟨b, k * 258 + 2, none⟩ (.agg VJ) _ (by rfl) (by rfl) STO.out ?_
  refine hK.out _ _ ?_ (fun hHeld => ?_)
  · exact KP6.out
  clear hK K
  try simp only [Act.put, List.getElem_toArray, List.getElem_cons_zero, List.getElem_cons_succ]
  refine wpAnyH_done (by kernel_rfl) ?_ _
  go_wp2_with fail
  go_ret
  exact ⟨rfl, FIN.out, KFN.out⟩
end
end Wq
end Go.Proofs.Ytfimfgffbfjkeaa
