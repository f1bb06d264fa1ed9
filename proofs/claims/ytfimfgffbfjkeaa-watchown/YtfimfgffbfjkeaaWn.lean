/- Layer 16's law: does, over this seat's program. -/
import Derived.Test.YtfimfgffbfjkeaaWn0
import Derived.Test.YtfimfgffbfjkeaaRo
import Derived.Deep.Cut
import Derived.Deep.DeepCutAuto
import Derived.Deep.RegionHeld3
namespace Go.Proofs.Ytfimfgffbfjkeaa
open Go.ChangeShapes Go.WideShapes Go.ChangeAt Go.RowKit
namespace Wq
open Ck
open Ba (KF Bd Nw)
open Wa (Wst IsSet Ext upf upf_same upf_other Used Fo WW WX)

def DoW (Y0 : Nat → Prop) (B G : Nat) (qs : Qst) (wh : Int) (w : World) (q : Ending) (w' : World) : Prop := q = .returned (.bool true) ∧ ∃ st' h' qs', JW Y0 B G w' st' h' qs' ∧ Rw st' h' qs' ∧ Kp Y0 w w' ∧ Nx wh qs qs'
section
variable {Y0 : Nat → Prop} {B G : Nat} {w : World} {st : Wst} {h : Nat → Option (List Int)} {qs : Qst}
theorem kp_d {Y : Nat → Prop} {a b : World} (k : Kp Y a b) : Kp Y a b.drew := ⟨k.os, k.tape, k.output, k.size, k.block⟩
set_option maxRecDepth 100000 in
set_option maxHeartbeats 3200000 in
theorem does_spawn (j : JW Y0 B G w st h qs) (r : Rw st h qs) (wh : Int) (hw : (wh == 0) = true ∨ ((wh == 0) = false ∧ (wh == 1) = true)) (g k : Int) (hg : wfk g) (hk : wfk k) (oa : Option Addr) (n cap : Nat) :
    Calls Try.prog 9 #[.pointer (some ⟨B, 0, none⟩), .pointer (some ⟨G, 0, none⟩), .agg #[.int .i64 wh, .int .i64 g, .int .i64 k, .slice oa n cap]] w (DoW Y0 B G qs (wh) w) := by
  unfold DoW
  have bA := below_alloc w (.cells #[.int .i64 wh, .int .i64 g, .int .i64 k, .slice oa n cap] 33)
  have JN := hide (j.new (.cells #[.int .i64 wh, .int .i64 g, .int .i64 k, .slice oa n cap] 33))
  have X5 := hide (heap_new w (.cells #[.int .i64 wh, .int .i64 g, .int .i64 k, .slice oa n cap] 33))
  have KN := hide (j.kp bA)
  have LL : Hid (qs.L.length ≤ 100000 ∧ qs.T ≤ 256 ∧ qs.M ≤ 1048576) := ⟨r.len j, by have := j.bd; have := r.T; omega, by have := j.bd; have := r.M; omega⟩
  have R0 := hide r
  clear j r bA
  rcases hw with hw | ⟨hw0, hw⟩
  · go_enter Try.func9, Try.ntmps9
    obtain ⟨Y1, hY1⟩ : ∃ Y1 : Nat → Prop, Y1 = fun x => Y0 x ∨ x = w.heap.size := ⟨_, rfl⟩
    have YI : Hid (∀ x, Y0 x → Y1 x) := by rw [hY1]; exact fun x q => .inl q
    have YB : Hid (Y1 w.heap.size) := by rw [hY1]; exact .inr rfl
    rw [← hY1] at JN
    clear hY1
    have SP := hide (spawnP JN.out R0.out g k hg hk)
    have hwe : wh = 0 := by simpa using hw
    subst hwe
    clear hw
    go_wp2_with fail
    generalize w.alloc (.cells #[.int .i64 0, .int .i64 g, .int .i64 k, .slice oa n cap] 33) = W5 at *
    generalize w.heap.size = B5 at *
    refine SP.out.mono ?_
    rintro q w2 ⟨a, e, st2, h2, qs2, rfl, sp, j2, k2, r2⟩
    have X2 := hide ((k2.block B5 YB.out).trans X5.out)
    have y1 : w2.cell? ⟨B5, 1, none⟩ = some (.int .i64 g) := cell_of X2.out 1
    have y2 : w2.cell? ⟨B5, 2, none⟩ = some (.int .i64 k) := cell_of X2.out 2
    have hB : B5 < w2.heap.size := Ba.heap_lt X2.out
    have SQ := hide (spawnQ j2 LL.out.1 LL.out.2.1 sp)
    have K2 := hide (KN.out.trans (Wa.Kp.mono k2 YI.out))
    have R2 := hide r2
    have NX := hide (sp.nx R0.out (0))
    clear j2 k2 r2 sp SP
    go_wp2_with fail
    refine SQ.out.mono ?_
    rintro q w3 ⟨rfl, j3, k3⟩
    have FIN : Hid (∃ st' h' qs', JW Y0 B G w3 st' h' qs' ∧ Rw st' h' qs' ∧ Kp Y0 w w3 ∧ Nx (0) qs qs') := ⟨_, _, _, j3.less YI.out, R2.out, K2.out.trans (Wa.Kp.mono k3 YI.out), NX.out⟩
    clear j3 k3 SQ
    go_wp2_with fail
    go_ret
    exact ⟨rfl, FIN.out⟩
  · go_enter Try.func9, Try.ntmps9
    obtain ⟨Y1, hY1⟩ : ∃ Y1 : Nat → Prop, Y1 = fun x => Y0 x ∨ x = w.heap.size := ⟨_, rfl⟩
    have YI : Hid (∀ x, Y0 x → Y1 x) := by rw [hY1]; exact fun x q => .inl q
    have YB : Hid (Y1 w.heap.size) := by rw [hY1]; exact .inr rfl
    rw [← hY1] at JN
    clear hY1
    have SP := hide (spawnP JN.out R0.out g k hg hk)
    have hwe : wh = 1 := by simpa using hw
    subst hwe
    clear hw
    go_wp2_with fail
    generalize w.alloc (.cells #[.int .i64 1, .int .i64 g, .int .i64 k, .slice oa n cap] 33) = W5 at *
    generalize w.heap.size = B5 at *
    refine SP.out.mono ?_
    rintro q w2 ⟨a, e, st2, h2, qs2, rfl, sp, j2, k2, r2⟩
    have X2 := hide ((k2.block B5 YB.out).trans X5.out)
    have y1 : w2.cell? ⟨B5, 1, none⟩ = some (.int .i64 g) := cell_of X2.out 1
    have y2 : w2.cell? ⟨B5, 2, none⟩ = some (.int .i64 k) := cell_of X2.out 2
    have hB : B5 < w2.heap.size := Ba.heap_lt X2.out
    have SQ := hide (spawnQ j2 LL.out.1 LL.out.2.1 sp)
    have K2 := hide (KN.out.trans (Wa.Kp.mono k2 YI.out))
    have R2 := hide r2
    have NX := hide (sp.nx R0.out (1))
    clear j2 k2 r2 sp SP
    go_wp2_with fail
    refine SQ.out.mono ?_
    rintro q w3 ⟨rfl, j3, k3⟩
    have FIN : Hid (∃ st' h' qs', JW Y0 B G w3 st' h' qs' ∧ Rw st' h' qs' ∧ Kp Y0 w w3 ∧ Nx (1) qs qs') := ⟨_, _, _, j3.less YI.out, R2.out, K2.out.trans (Wa.Kp.mono k3 YI.out), NX.out⟩
    clear j3 k3 SQ
    go_wp2_with fail
    go_ret
    exact ⟨rfl, FIN.out⟩
set_option maxRecDepth 100000 in
set_option maxHeartbeats 3200000 in
theorem does_retire (j : JW Y0 B G w st h qs) (r : Rw st h qs)  (g k : Int) (hg : wfk g) (oa : Option Addr) (n cap : Nat) :
    Calls Try.prog 9 #[.pointer (some ⟨B, 0, none⟩), .pointer (some ⟨G, 0, none⟩), .agg #[.int .i64 5, .int .i64 g, .int .i64 k, .slice oa n cap]] w (DoW Y0 B G qs (5) w) := by
  unfold DoW
  have bA := below_alloc w (.cells #[.int .i64 5, .int .i64 g, .int .i64 k, .slice oa n cap] 33)
  have JN := hide (j.new (.cells #[.int .i64 5, .int .i64 g, .int .i64 k, .slice oa n cap] 33))
  have X5 := hide (heap_new w (.cells #[.int .i64 5, .int .i64 g, .int .i64 k, .slice oa n cap] 33))
  have KN := hide (j.kp bA)
  have LL : Hid (qs.L.length ≤ 100000 ∧ qs.T ≤ 256 ∧ qs.M ≤ 1048576) := ⟨r.len j, by have := j.bd; have := r.T; omega, by have := j.bd; have := r.M; omega⟩
  have R0 := hide r
  clear j r bA
  go_enter Try.func9, Try.ntmps9
  obtain ⟨Y1, hY1⟩ : ∃ Y1 : Nat → Prop, Y1 = fun x => Y0 x ∨ x = w.heap.size := ⟨_, rfl⟩
  have YI : Hid (∀ x, Y0 x → Y1 x) := by rw [hY1]; exact fun x q => .inl q
  have YB : Hid (Y1 w.heap.size) := by rw [hY1]; exact .inr rfl
  rw [← hY1] at JN
  clear hY1
  have SP := hide (fun u (j : JW Y1 B G u st h qs) => retireP j R0.out g hg)
  go_upto_region 19 with fail
  generalize w.alloc (.cells #[.int .i64 5, .int .i64 g, .int .i64 k, .slice oa n cap] 33) = W5 at *
  generalize w.heap.size = B5 at *
  have JD := hide (JN.out.below (Ba.bdrew1 _))
  have y1 : W5.cell? ⟨B5, 1, none⟩ = some (.int .i64 g) := cell_of X5.out 1
  have KC : Hid (∀ u : World, u.heap[B5]? = W5.heap[B5]? → u.cell? ⟨B5, 1, none⟩ = some (.int .i64 g)) := fun u hu => cell_of (hu.trans X5.out) 1
  try simp only [List.append_eq, List.cons_append, List.nil_append]
  refine wp_region_held_drew (S := (fun w' => w'.cell? ⟨B5, 1, none⟩ = some (.int .i64 g))) (by kernel_rfl) ?_ (fun hHeld => ?_)
  · exact y1
  refine wpAnyH_take (i := 0) (v := ?_) rfl (by kernel_rfl) (by kernel_rfl) (by kernel_rfl) (fun _ _ _ h => h) (Or.inl ⟨by rfl, ?_⟩) (by assumption) ?_
  rotate_left
  · intro w0 hSw; (try dsimp only at hSw); go_simp <;> with_reducible rfl
  try simp only [Act.put, List.getElem_toArray, List.getElem_cons_zero, List.setIfInBounds_toArray, List.set_cons_zero, List.set_cons_succ]
  refine wpAnyH_take (i := 1) (v := ?_) rfl (by kernel_rfl) (by kernel_rfl) (by kernel_rfl) (fun _ _ _ h => h) (Or.inl ⟨by rfl, ?_⟩) (by assumption) ?_
  rotate_left
  · intro w0 hSw; (try dsimp only at hSw); go_simp <;> with_reducible rfl
  try simp only [Act.put, List.getElem_toArray, List.getElem_cons_zero, List.getElem_cons_succ, List.setIfInBounds_toArray, List.set_cons_zero, List.set_cons_succ]
  refine wpAnyH_take (i := 2) (v := ?_) rfl (by kernel_rfl) (by kernel_rfl) (by kernel_rfl) (fun _ _ _ h => h) (Or.inl ⟨by rfl, ?_⟩) (by assumption) ?_
  rotate_left
  · intro w0 hSw; (try dsimp only at hSw); go_simp <;> with_reducible rfl
  try simp only [Act.put, List.getElem_toArray, List.getElem_cons_zero, List.getElem_cons_succ, List.setIfInBounds_toArray, List.set_cons_zero, List.set_cons_succ]
  refine wpAnyH_take (i := 4) (v := ?_) rfl (by kernel_rfl) (by kernel_rfl) (by kernel_rfl) (fun _ _ _ h => h) (Or.inl ⟨by rfl, ?_⟩) (by assumption) ?_
  rotate_left
  · intro w0 hSw; (try dsimp only at hSw); go_simp <;> with_reducible rfl
  try simp only [Act.put, List.getElem_toArray, List.getElem_cons_zero, List.getElem_cons_succ, List.setIfInBounds_toArray, List.set_cons_zero, List.set_cons_succ]
  refine wpAnyH_take (i := 5) (v := ?_) rfl (by kernel_rfl) (by kernel_rfl) (by kernel_rfl) (fun _ _ _ h => h) (Or.inl ⟨by rfl, ?_⟩) (by assumption) ?_
  rotate_left
  · intro w0 hSw; (try dsimp only at hSw); go_simp <;> with_reducible rfl
  try simp only [Act.put, List.getElem_toArray, List.getElem_cons_zero, List.getElem_cons_succ, List.setIfInBounds_toArray, List.set_cons_zero, List.set_cons_succ]
  refine wpAnyH_take (i := 6) (v := ?_) rfl (by kernel_rfl) (by kernel_rfl) (by kernel_rfl) (fun _ _ _ h => h) (Or.inl ⟨by rfl, ?_⟩) (by assumption) ?_
  rotate_left
  · intro w0 hSw; (try dsimp only at hSw); go_simp <;> with_reducible rfl
  try simp only [Act.put, List.getElem_toArray, List.getElem_cons_zero, List.getElem_cons_succ, List.setIfInBounds_toArray, List.set_cons_zero, List.set_cons_succ]
  refine wpAnyH_ready (rs := [3]) (by kernel_rfl) (by simp) ?_
  refine AllReadyH.cons rfl (fun K hK => ?_) AllReadyH.nil
  go_simp
  (go_at_call 18; refine (SP.out _ JD.out).mono ?_; rintro q v1 ⟨e, st2, h2, qs2, rfl, re, j2, k2, r2⟩)
  (try go_wp2_with fail)
  refine hK.out _ _ ?_ (fun hHeld => ?_)
  · (exact KC.out _ (k2.block B5 YB.out))
  clear hK K
  try simp only [Act.put, List.getElem_toArray, List.getElem_cons_zero, List.getElem_cons_succ, List.setIfInBounds_toArray, List.set_cons_zero, List.set_cons_succ]
  refine wpAnyH_ready (rs := [7]) (by kernel_rfl) (by simp) ?_
  refine AllReadyH.cons rfl (fun K hK => ?_) AllReadyH.nil
  go_simp
  (go_at_call 33; refine (retireQ j2 LL.out.1 re).mono ?_; rintro q v2 ⟨rfl, j3, k3⟩)
  (try go_wp2_with fail)
  refine hK.out _ _ ?_ (fun hHeld => ?_)
  · (exact KC.out _ ((k3.block B5 YB.out).trans (k2.block B5 YB.out)))
  clear hK K
  try simp only [Act.put, List.getElem_toArray, List.getElem_cons_zero, List.getElem_cons_succ, List.setIfInBounds_toArray, List.set_cons_zero, List.set_cons_succ]
  refine wpAnyH_take (i := 8) (v := ?_) rfl (by kernel_rfl) (by kernel_rfl) (by kernel_rfl) (fun _ _ _ h => h) (Or.inl ⟨by rfl, ?_⟩) (by assumption) ?_
  rotate_left
  · intro w0 hSw; (try dsimp only at hSw); go_simp <;> with_reducible rfl
  try simp only [Act.put, List.getElem_toArray, List.getElem_cons_zero, List.getElem_cons_succ, List.setIfInBounds_toArray, List.set_cons_zero, List.set_cons_succ]
  refine wpAnyH_take (i := 9) (v := ?_) rfl (by kernel_rfl) (by kernel_rfl) (by kernel_rfl) (fun _ _ _ h => h) (Or.inl ⟨by rfl, ?_⟩) (by assumption) ?_
  rotate_left
  · intro w0 hSw; (try dsimp only at hSw); go_simp <;> with_reducible rfl
  try simp only [Act.put, List.getElem_toArray, List.getElem_cons_zero, List.getElem_cons_succ, List.setIfInBounds_toArray, List.set_cons_zero, List.set_cons_succ]
  refine wpAnyH_done (by kernel_rfl) ?_ _
  have FIN : Hid (∃ st' h' qs', JW Y0 B G v2 st' h' qs' ∧ Rw st' h' qs' ∧ Kp Y0 w v2 ∧ Nx 5 qs qs') := ⟨_, _, _, j3.less YI.out, r2, ((kp_d KN.out).trans (Wa.Kp.mono k2 YI.out)).trans (Wa.Kp.mono k3 YI.out), re.nx R0.out 5⟩
  clear j3 k3 j2 k2 r2 re
  go_wp2_with fail
  go_ret
  exact ⟨rfl, FIN.out⟩
set_option maxRecDepth 100000 in
set_option maxHeartbeats 3200000 in
theorem does_else (j : JW Y0 B G w st h qs) (r : Rw st h qs) (wh : Int) (h0 : (wh == 0) = false) (h1 : (wh == 1) = false) (h2 : (wh == 2) = false) (h3 : (wh == 3) = false) (h4 : (wh == 4) = false) (h5 : (wh == 5) = false) (g k : Int) (oa : Option Addr) (n cap : Nat) :
    Calls Try.prog 9 #[.pointer (some ⟨B, 0, none⟩), .pointer (some ⟨G, 0, none⟩), .agg #[.int .i64 wh, .int .i64 g, .int .i64 k, .slice oa n cap]] w (DoW Y0 B G qs (wh) w) := by
  unfold DoW
  have bA := below_alloc w (.cells #[.int .i64 wh, .int .i64 g, .int .i64 k, .slice oa n cap] 33)
  have JN := hide (j.new (.cells #[.int .i64 wh, .int .i64 g, .int .i64 k, .slice oa n cap] 33))
  have X5 := hide (heap_new w (.cells #[.int .i64 wh, .int .i64 g, .int .i64 k, .slice oa n cap] 33))
  have KN := hide (j.kp bA)
  have LL : Hid (qs.L.length ≤ 100000 ∧ qs.T ≤ 256 ∧ qs.M ≤ 1048576) := ⟨r.len j, by have := j.bd; have := r.T; omega, by have := j.bd; have := r.M; omega⟩
  have R0 := hide r
  clear LL X5
  have FIN : Hid (∃ st' h' qs', JW Y0 B G (w.alloc (.cells #[.int .i64 wh, .int .i64 g, .int .i64 k, .slice oa n cap] 33)) st' h' qs' ∧ Rw st' h' qs' ∧ Kp Y0 w (w.alloc (.cells #[.int .i64 wh, .int .i64 g, .int .i64 k, .slice oa n cap] 33)) ∧ Nx wh qs qs') := ⟨_, _, _, j.below bA, r, KN.out, Nx.refl _ _⟩
  clear j r bA JN KN R0
  go_enter Try.func9, Try.ntmps9
  go_wp2_with fail
  go_ret
  exact ⟨rfl, FIN.out⟩
end
end Wq
end Go.Proofs.Ytfimfgffbfjkeaa
