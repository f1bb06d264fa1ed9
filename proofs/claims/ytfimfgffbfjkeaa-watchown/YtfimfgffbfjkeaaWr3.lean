/- Layer 16's reference, over this seat's program: steps that make memory; Can. -/
import Derived.Test.YtfimfgffbfjkeaaWr3a
import Derived.Test.YtfimfgffbfjkeaaWr3c
import Derived.Deep.Cut
import Derived.Deep.DeepCutAuto
import Derived.Deep.RegionHeld3
namespace Go.Proofs.Ytfimfgffbfjkeaa
open Go.ChangeShapes Go.WideShapes Go.ChangeAt Go.RowKit
namespace Wq
open Ck
open Ba (KF Bd Nw)

theorem RO.below {w w' : World} {b off : Nat} {o : On} (h : RO w b off o) (hb : Below w.heap.size w w') : RO w' b off o := by
  have hlt : b < w.heap.size := World.block_lt_of_cell? w _ h.g
  exact ⟨fun j hj => (hb.cell (p := ⟨b, off + j, none⟩) hlt).trans (h.1 j hj), fun j => (World.frozen?_of_block (hb.block b hlt)).trans (h.2 j)⟩
section
variable {w w' : World} {G : Nat} {st : Qst} {v : Value}
set_option maxRecDepth 100000 in
set_option maxHeartbeats 800000 in
theorem can_no (s : QX w G st v) (g : Int) (hl : st.L.length ≤ 100000) (h : at_ st.L g = -1) :
    Calls Try.prog 35 #[.pointer (some ⟨G, 0, none⟩), .int .i64 g] w fun r w' => r = .returned (.bool false) ∧ Below w.heap.size w w' := by
  have A := hide (at_any s g hl)
  rw [h] at A
  clear s h
  go_enter Try.func35, Try.ntmps35
  go_wp2_with fail
  refine A.out.mono ?_
  rintro r w1 ⟨rfl, b1⟩
  have B1 := hide b1
  clear b1
  go_wp2_with fail
  go_ret
  exact ⟨rfl, B1.out⟩
set_option maxRecDepth 100000 in
set_option maxHeartbeats 1600000 in
theorem can_yes (s : QX w G st v) (g : Int) (hl : st.L.length ≤ 100000) (k : Nat) (o : On) (h : at_ st.L g = (k : Int)) (hk : st.L[k]? = some o) :
    Calls Try.prog 35 #[.pointer (some ⟨G, 0, none⟩), .int .i64 g] w fun r w' => r = .returned (.bool (decide (rg o.F (o.t : Int) < (st.M : Int)))) ∧ Below w.heap.size w w' := by
  have A := hide (at_any s g hl)
  rw [h] at A
  obtain ⟨oa, c, rfl⟩ := own_sl s.ow
  have hkl : k < st.L.length := (List.getElem?_eq_some_iff.1 hk).1
  obtain ⟨b, rfl, ro⟩ := row_ro s.ow hk
  have HS := hide s
  have RO := hide ro
  obtain ⟨n, hn⟩ : ∃ n, st.L.length = n := ⟨_, rfl⟩
  have CE := hide (fun u (b : Below w.heap.size w u) => (s.below b).cells)
  rw [hn] at CE hkl hl
  have hkl' : (k : Int) < (n : Int) := by omega
  have hlt := s.lt
  have zr := zero_ref
  have zs := ra_size nf
  have vs_ := ra_size o.F
  clear s h hk ro hn
  obtain ⟨tz, htz⟩ : ∃ tz : Int, (o.t : Int) = tz := ⟨_, rfl⟩
  obtain ⟨kz, hkz⟩ : ∃ kz : Int, rg o.F tz = kz := ⟨_, rfl⟩
  have HTZ := hide (And.intro htz hkz)
  rw [htz, hkz]
  clear htz hkz
  go_enter Try.func35, Try.ntmps35
  go_wp2_with fail
  refine A.out.mono ?_
  rintro r w1 ⟨rfl, b1⟩
  have B1 := hide b1
  obtain ⟨-, y1, y2⟩ := CE.out w1 b1
  have hG1 : G < w1.heap.size := Nat.lt_of_lt_of_le hlt b1.size
  have LD := hide (ldv_ref (RO.out.below b1).F)
  have st1 := st_ref o.F (heap_new w1 (.cells (ra nf) 59)) (ra_size nf)
  rw [setRow_new] at st1
  have bA := below_alloc w1 (.cells (ra o.F) 59)
  have B2 := hide (btr b1 bA)
  have RA2 := hide (RA.of (heap_new w1 (.cells (ra o.F) 59)))
  have y1b := cellB y1 bA
  have y2b := cellB y2 bA
  have t1 := cellB (RO.out.below b1).t bA
  have GT := hide (fun u (bu : Below (w1.alloc (.cells (ra o.F) 59)).heap.size (w1.alloc (.cells (ra o.F) 59)) u) => rget_any w1.heap.size 0 o.F (o.t : Int) u (RA2.out.below bu))
  clear b1 bA RA2
  obtain ⟨V, hV⟩ : ∃ V, ra o.F = V := ⟨_, rfl⟩
  obtain ⟨Z, hZ⟩ : ∃ Z, ra nf = Z := ⟨_, rfl⟩
  rw [hV] at LD st1 B2 y1b y2b t1 GT vs_
  rw [hZ] at st1 zr zs
  clear hV hZ
  rw [HTZ.out.1, HTZ.out.2] at GT
  rw [HTZ.out.1] at t1
  go_upto_region 5 with (refine wpL_load rfl 59 _ rfl _ _ rfl LD.out ?_)
  clear st1 zr zs LD
  generalize w1.alloc (.cells V 59) = W1 at *
  generalize w1.heap.size = B at *
  try simp only [List.append_eq, List.cons_append, List.nil_append]
  refine wp_region_held_drew (S := (fun w' => w'.cell? ⟨G, 2, none⟩ = some (.slice (some ⟨b, 0, none⟩) n c) ∧ w'.cell? ⟨b, k * 258 + 1, none⟩ = some (.int .i64 tz) ∧ w'.cell? ⟨G, 1, none⟩ = some (.int .i64 (st.M : Int)))) (by kernel_rfl) ?_ (fun hHeld => ?_)
  · exact ⟨y2b, t1, y1b⟩
  refine wpAnyH_take (i := 0) (v := ?_) rfl (by kernel_rfl) (by kernel_rfl) (by kernel_rfl) (fun _ _ _ h => h) (Or.inl ⟨by rfl, ?_⟩) (by assumption) ?_
  rotate_left
  · intro w0 hSw; (try dsimp only at hSw); go_simp <;> with_reducible rfl
  try simp only [Act.put, List.getElem_toArray, List.getElem_cons_zero, List.setIfInBounds_toArray, List.set_cons_zero, List.set_cons_succ]
  refine wpAnyH_take (i := 1) (v := ?_) rfl (by kernel_rfl) (by kernel_rfl) (by kernel_rfl) (fun _ _ _ h => h) (Or.inl ⟨by rfl, ?_⟩) (by assumption) ?_
  rotate_left
  · intro w0 hSw; (try dsimp only at hSw); go_simp <;> with_reducible rfl
  try simp only [Act.put, List.getElem_toArray, List.getElem_cons_zero, List.getElem_cons_succ, List.setIfInBounds_toArray, List.set_cons_zero, List.set_cons_succ]
  refine wpAnyH_take (i := 2) (v := ?_) rfl (by kernel_rfl) (by kernel_rfl) (by kernel_rfl) (fun _ _ _ h => h) (Or.inl ⟨by rfl, ?_⟩) (by assumption) ?_
  rotate_left
  · intro w0 hSw; (try dsimp only at hSw); go_simp <;> with_reducible rfl
  try simp only [Act.put, List.getElem_toArray, List.getElem_cons_zero, List.getElem_cons_succ, List.setIfInBounds_toArray, List.set_cons_zero, List.set_cons_succ]
  refine wpAnyH_take (i := 3) (v := ?_) rfl (by kernel_rfl) (by kernel_rfl) (by kernel_rfl) (fun _ _ _ h => h) (Or.inl ⟨by rfl, ?_⟩) (by assumption) ?_
  rotate_left
  · intro w0 hSw; (try dsimp only at hSw); go_simp <;> with_reducible rfl
  try simp only [Act.put, List.getElem_toArray, List.getElem_cons_zero, List.getElem_cons_succ, List.setIfInBounds_toArray, List.set_cons_zero, List.set_cons_succ]
  refine wpAnyH_take (i := 4) (v := ?_) rfl (by kernel_rfl) (by kernel_rfl) (by kernel_rfl) (fun _ _ _ h => h) (Or.inl ⟨by rfl, ?_⟩) (by assumption) ?_
  rotate_left
  · intro w0 hSw; (try dsimp only at hSw); go_simp <;> with_reducible rfl
  try simp only [Act.put, List.getElem_toArray, List.getElem_cons_zero, List.getElem_cons_succ, List.setIfInBounds_toArray, List.set_cons_zero, List.set_cons_succ]
  refine wpAnyH_take (i := 5) (v := ?_) rfl (by kernel_rfl) (by kernel_rfl) (by kernel_rfl) (fun _ _ _ h => h) (Or.inl ⟨by rfl, ?_⟩) (by assumption) ?_
  rotate_left
  · intro w0 hSw; (try dsimp only at hSw); go_simp <;> with_reducible rfl
  try simp only [Act.put, List.getElem_toArray, List.getElem_cons_zero, List.getElem_cons_succ, List.setIfInBounds_toArray, List.set_cons_zero, List.set_cons_succ]
  refine wpAnyH_take (i := 6) (v := ?_) rfl (by kernel_rfl) (by kernel_rfl) (by kernel_rfl) (fun _ _ _ h => h) (Or.inl ⟨by rfl, ?_⟩) (by assumption) ?_
  rotate_left
  · intro w0 hSw; (try dsimp only at hSw); go_simp <;> with_reducible rfl
  try simp only [Act.put, List.getElem_toArray, List.getElem_cons_zero, List.getElem_cons_succ, List.setIfInBounds_toArray, List.set_cons_zero, List.set_cons_succ]
  refine wpAnyH_take (i := 7) (v := ?_) rfl (by kernel_rfl) (by kernel_rfl) (by kernel_rfl) (fun _ _ _ h => h) (Or.inl ⟨by rfl, ?_⟩) (by assumption) ?_
  rotate_left
  · intro w0 hSw; (try dsimp only at hSw); go_simp <;> with_reducible rfl
  try simp only [Act.put, List.getElem_toArray, List.getElem_cons_zero, List.getElem_cons_succ, List.setIfInBounds_toArray, List.set_cons_zero, List.set_cons_succ]
  refine wpAnyH_take (i := 9) (v := ?_) rfl (by kernel_rfl) (by kernel_rfl) (by kernel_rfl) (fun _ _ _ h => h) (Or.inl ⟨by rfl, ?_⟩) (by assumption) ?_
  rotate_left
  · intro w0 hSw; (try dsimp only at hSw); go_simp <;> with_reducible rfl
  try simp only [Act.put, List.getElem_toArray, List.getElem_cons_zero, List.getElem_cons_succ, List.setIfInBounds_toArray, List.set_cons_zero, List.set_cons_succ]
  refine wpAnyH_take (i := 10) (v := ?_) rfl (by kernel_rfl) (by kernel_rfl) (by kernel_rfl) (fun _ _ _ h => h) (Or.inl ⟨by rfl, ?_⟩) (by assumption) ?_
  rotate_left
  · intro w0 hSw; (try dsimp only at hSw); go_simp <;> with_reducible rfl
  try simp only [Act.put, List.getElem_toArray, List.getElem_cons_zero, List.getElem_cons_succ, List.setIfInBounds_toArray, List.set_cons_zero, List.set_cons_succ]
  refine wpAnyH_take (i := 11) (v := ?_) rfl (by kernel_rfl) (by kernel_rfl) (by kernel_rfl) (fun _ _ _ h => h) (Or.inl ⟨by rfl, ?_⟩) (by assumption) ?_
  rotate_left
  · intro w0 hSw; (try dsimp only at hSw); go_simp <;> with_reducible rfl
  try simp only [Act.put, List.getElem_toArray, List.getElem_cons_zero, List.getElem_cons_succ, List.setIfInBounds_toArray, List.set_cons_zero, List.set_cons_succ]
  refine wpAnyH_take (i := 12) (v := ?_) rfl (by kernel_rfl) (by kernel_rfl) (by kernel_rfl) (fun _ _ _ h => h) (Or.inl ⟨by rfl, ?_⟩) (by assumption) ?_
  rotate_left
  · intro w0 hSw; (try dsimp only at hSw); go_simp <;> with_reducible rfl
  try simp only [Act.put, List.getElem_toArray, List.getElem_cons_zero, List.getElem_cons_succ, List.setIfInBounds_toArray, List.set_cons_zero, List.set_cons_succ]
  refine wpAnyH_ready (rs := [8]) (by kernel_rfl) (by simp) ?_
  refine AllReadyH.cons rfl (fun K hK => ?_) AllReadyH.nil
  go_simp
  (go_at_call 38; refine (GT.out _ (Ba.bdrew1 _)).mono ?_; rintro r v1 ⟨rfl, e1⟩; subst e1)
  (try go_wp2_with fail)
  refine hK.out _ _ ?_ (fun hHeld => ?_)
  · assumption
  clear hK K
  try simp only [Act.put, List.getElem_toArray, List.getElem_cons_zero, List.getElem_cons_succ, List.setIfInBounds_toArray, List.set_cons_zero, List.set_cons_succ]
  refine wpAnyH_take (i := 13) (v := ?_) rfl (by kernel_rfl) (by kernel_rfl) (by kernel_rfl) (fun _ _ _ h => h) (Or.inl ⟨by rfl, ?_⟩) (by assumption) ?_
  rotate_left
  · intro w0 hSw; (try dsimp only at hSw); go_simp <;> with_reducible rfl
  try simp only [Act.put, List.getElem_toArray, List.getElem_cons_zero, List.getElem_cons_succ, List.setIfInBounds_toArray, List.set_cons_zero, List.set_cons_succ]
  refine wpAnyH_take (i := 14) (v := ?_) rfl (by kernel_rfl) (by kernel_rfl) (by kernel_rfl) (fun _ _ _ h => h) (Or.inl ⟨by rfl, ?_⟩) (by assumption) ?_
  rotate_left
  · intro w0 hSw; (try dsimp only at hSw); go_simp <;> with_reducible rfl
  try simp only [Act.put, List.getElem_toArray, List.getElem_cons_zero, List.getElem_cons_succ, List.setIfInBounds_toArray, List.set_cons_zero, List.set_cons_succ]
  refine wpAnyH_done (by kernel_rfl) ?_ _
  have B3 := hide (btr B2.out (Ba.bdrew1 _))
  go_wp2_with fail
  go_ret
  exact ⟨rfl, B3.out⟩
end
end Wq
end Go.Proofs.Ytfimfgffbfjkeaa
