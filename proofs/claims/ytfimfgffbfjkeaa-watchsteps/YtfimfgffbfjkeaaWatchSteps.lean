/- Every t, m and steps: WatchSteps answers true: step by step, who has which tid, what each knows and tells. -/
import Derived.Test.YtfimfgffbfjkeaaWz
import Derived.Test.YtfimfgffbfjkeaaBo
import Derived.Deep.Cut
import Derived.Deep.DeepCutAuto
import Derived.Deep.RegionHeld3
import Derived.ShutString
import Derived.ChangeOld
import Derived.Below
namespace Go.Proofs.Ytfimfgffbfjkeaa.watchSteps
open Go.ChangeShapes Go.WideShapes Go.ChangeAt Go.RowKit
open Go.ChangeMaps (open_string shut_string)
open Wq Ck
open Wa (Wst Ks Lw)

theorem own : ownKnob Try.prog.godebug = none := by kernel_rfl
theorem laidOut : laidOutB Try.prog = true := by kernel_rfl

set_option maxRecDepth 100000 in
set_option maxHeartbeats 3200000 in
theorem bad {w : World} (t m : Int) (oa : Option Addr) (n c : Nat) (h : (t < 1 ∨ 256 < t) ∨ m < 1 ∨ 1048576 < m) : Calls Try.prog 3 #[.int .i64 t, .int .i64 m, .slice oa n c] w fun r w' => r = .returned (.bool true) ∧ Below w.heap.size w w' := by
  have N1 := hide (Wa.new_bad t m w h)
  have N2 := hide (rnew_bad t m w h)
  clear h
  go_enter Try.func3, Try.ntmps3
  go_wp2_with fail
  refine N1.out.mono ?_
  rintro r w1 ⟨rfl, e1⟩
  obtain rfl := e1.symm
  go_wp2_with fail
  refine N2.out.mono ?_
  rintro r w1 ⟨rfl, e1⟩
  obtain rfl := e1.symm
  go_wp2_with fail
  refine (Wa.two_any _).mono ?_
  rintro r w1 ⟨rfl, b1⟩
  have B1 := hide b1
  clear b1
  go_wp2_with fail
  go_ret
  exact ⟨rfl, B1.out⟩
set_option maxRecDepth 100000 in
set_option maxHeartbeats 12800000 in
theorem core {w : World} (t m : Int) (oa : Option Addr) (l : List Stp) (c : Nat) (hJ : Ba.GAt w oa 4 (StE w) l) (hmx : l.length ≤ maxLen) :
    Calls Try.prog 3 #[.int .i64 t, .int .i64 m, .slice oa l.length c] w fun r w' => r = .returned (.bool true) ∧ Below w.heap.size w w' := by
  unfold maxLen at hmx
  by_cases hn : (t < 1 ∨ 256 < t) ∨ m < 1 ∨ 1048576 < m
  · exact bad t m oa l.length c hn
  obtain ⟨tt, rfl⟩ : ∃ tt : Nat, t = (tt : Int) := ⟨t.toNat, by omega⟩
  obtain ⟨mm, rfl⟩ : ∃ mm : Nat, m = (mm : Int) := ⟨m.toNat, by omega⟩
  have HJ := hide hJ
  have NW := hide (Wa.new_any tt mm w (by omega) (by omega))
  have NR := hide (fun u => rnew_ok tt mm u (by omega) (by omega))
  have H1 : Hid (1 ≤ tt) := by show 1 ≤ tt; omega
  have ht256 : (tt : Int) ≤ 256 := by omega
  clear hJ hn
  obtain ⟨N, hN⟩ : ∃ N, l.length = N := ⟨_, rfl⟩
  have HN := hide hN
  rw [hN] at hmx ⊢
  clear hN
  go_enter Try.func3, Try.ntmps3
  go_wp2_with fail
  refine NW.out.mono ?_
  rintro r w1 ⟨B, c0, h, rfl, s1, hc, k1⟩
  have S1 := hide s1
  have HC := hide hc
  have K1 := hide k1
  clear s1 hc k1 NW
  go_wp2_with fail
  refine (NR.out _).mono ?_
  rintro r w2 ⟨G, v, rfl, q2, hq, b2⟩
  have I0 : Hid (∃ st h qs, JW (Lw w) B G w2 st h qs ∧ Rw st h qs ∧ Kp (Lw w) w w2 ∧ qs.T = tt) := by
    obtain ⟨a1, a2, a3⟩ := jw_zero H1.out S1.out HC.out K1.out q2 hq b2
    exact ⟨_, _, _, a1, a2, a3, rfl⟩
  clear q2 hq b2 S1 HC K1 NR
  by_cases hl : 150 < N
  · have d : decide (150 < (N : Int)) = true := decide_eq_true (by omega)
    have d2 : decide (150 < N) = true := decide_eq_true hl
    go_wp2_with fail
    refine (Wa.two_any _).mono ?_
    rintro r w3 ⟨rfl, b3⟩
    have B3 : Hid (Below w.heap.size w w3) := by obtain ⟨_, _, _, -, -, k, -⟩ := I0.out; exact btr (Wa.Kp.lw k) b3
    clear b3
    go_wp2_with fail
    go_ret
    exact ⟨rfl, B3.out⟩
  have d : decide (150 < (N : Int)) = false := decide_eq_false (by omega)
  have d2 : decide (150 < N) = false := decide_eq_false hl
  go_wp2_with fail
  rename World => w00
  go_loopw [47] (fun i wr => ∃ k : Nat, k ≤ N ∧ i = .int .i64 (k : Int) ∧ ∃ st h qs, JW (Lw w) B G wr st h qs ∧ Rw st h qs ∧ Kp (Lw w) w wr ∧ qs.T = tt) (fun i _ => N - (intOf i).toNat)
  case atStart => exact ⟨0, Nat.zero_le _, rfl, I0.out⟩
  case round =>
    clear I0
    obtain ⟨k, hkl, rfl, st, h, qs, j, r, kp, hT⟩ := hrel
    by_cases hlt : k < N
    · have hlt' : (k : Int) < (N : Int) := by omega
      obtain ⟨z, hz⟩ : ∃ z, l[k]? = some z := ⟨_, List.getElem?_eq_getElem (by have := HN.out; omega)⟩
      obtain ⟨b0, off, cs, rfl, hcl, hcells, hE⟩ := (HJ.out.below (Wa.Kp.lw kp) (fun cs x e => StE.below (Wa.Kp.lw kp) e)) k z hz
      obtain ⟨ca, cc, rfl, hA, hlc, hcm, hg, hk⟩ := id hE
      have e0 := hcells 0 (by decide)
      have e1 := hcells 1 (by decide)
      have e2 := hcells 2 (by decide)
      have e3 := hcells 3 (by decide)
      simp only [List.getElem?_cons_zero, List.getElem?_cons_succ, Nat.add_zero] at e0 e1 e2 e3
      have SE := hide hE
      have HG : Hid (wfk z.g ∧ wfk z.k) := ⟨hg, hk⟩
      clear hcl hcells hE hA hlc hcm hg hk hz
      obtain ⟨wh, g, kk, lc⟩ := z
      simp only at e0 e1 e2 e3 SE HG
      obtain ⟨nc, hnc⟩ : ∃ nc, lc.length = nc := ⟨_, rfl⟩
      rw [hnc] at e3 SE
      have HNC := hide hnc
      clear hnc
      have BA := below_alloc wr (.cells #[.int .i64 wh, .int .i64 g, .int .i64 kk, .slice ca nc cc] 33)
      have JN := hide (j.new (.cells #[.int .i64 wh, .int .i64 g, .int .i64 kk, .slice ca nc cc] 33))
      have XA := hide (heap_new wr (.cells #[.int .i64 wh, .int .i64 g, .int .i64 kk, .slice ca nc cc] 33))
      have KN0 := hide (Wa.kp_b kp BA j.ylt)
      have SE2 := hide (StE.below BA SE.out)
      have R0 := hide r
      have TT := hide hT
      clear j r kp hT BA SE
      go_upto_region 10 with fail
      generalize wr.alloc (.cells #[.int .i64 wh, .int .i64 g, .int .i64 kk, .slice ca nc cc] 33) = W10 at *
      generalize wr.heap.size = A at *
      obtain ⟨Y1, hY1⟩ : ∃ Y1 : Nat → Prop, Y1 = fun x => Lw w x ∨ x = A := ⟨_, rfl⟩
      have YI : Hid (∀ x, Lw w x → Y1 x) := by rw [hY1]; exact fun x q => .inl q
      have YA : Hid (Y1 A) := by rw [hY1]; exact .inr rfl
      rw [← hY1] at JN
      clear hY1
      have KN : Hid (Kp (Lw w) w W10.drew) := kp_d KN0.out
      have DO := hide (does_stp (JN.out.below (Ba.bdrew1 _)) R0.out (StE.below (Ba.bdrew1 W10) SE2.out))
      unfold DoW at DO
      simp only [] at DO
      have KC : Hid (∀ u : World, u.heap[A]? = W10.drew.heap[A]? → u.cell? ⟨A, 0, none⟩ = some (.int .i64 wh) ∧ u.cell? ⟨A, 1, none⟩ = some (.int .i64 g) ∧ u.cell? ⟨A, 2, none⟩ = some (.int .i64 kk) ∧ u.cell? ⟨A, 3, none⟩ = some (.slice ca nc cc)) := fun u hu => by
        have e := hu.trans (show W10.drew.heap[A]? = _ from XA.out)
        exact ⟨cell_of e 0, cell_of e 1, cell_of e 2, cell_of e 3⟩
      clear e0 e1 e2 e3 XA SE2
      try simp only [List.append_eq, List.cons_append, List.nil_append]
      refine wp_region_held_drew (S := (fun w' => w'.cell? ⟨A, 0, none⟩ = some (.int .i64 wh) ∧ w'.cell? ⟨A, 1, none⟩ = some (.int .i64 g) ∧ w'.cell? ⟨A, 2, none⟩ = some (.int .i64 kk) ∧ w'.cell? ⟨A, 3, none⟩ = some (.slice ca nc cc))) (by kernel_rfl) ?_ (fun hHeld => ?_)
      · exact KC.out _ rfl
      refine wpAnyH_take (i := 0) (v := ?_) rfl (by kernel_rfl) (by kernel_rfl) (by kernel_rfl) (fun _ _ _ h => h) (Or.inl ⟨by rfl, ?_⟩) (by assumption) ?_
      rotate_left
      · intro w0 hSw; (try dsimp only at hSw); go_simp <;> with_reducible rfl
      try simp only [Act.put, List.getElem_toArray, List.getElem_cons_zero, List.setIfInBounds_toArray, List.set_cons_zero, List.set_cons_succ]
      refine wpAnyH_take (i := 1) (v := ?_) rfl (by kernel_rfl) (by kernel_rfl) (by kernel_rfl) (fun _ _ _ h => h) (Or.inl ⟨by rfl, ?_⟩) (by assumption) ?_
      rotate_left
      · intro w0 hSw; (try dsimp only at hSw); go_simp <;> with_reducible rfl
      try simp only [Act.put, List.getElem_toArray, List.getElem_cons_zero, List.getElem_cons_succ, List.setIfInBounds_toArray, List.set_cons_zero, List.set_cons_succ]
      refine wpAnyH_take (i := 2) (v := ?_) rfl (by kernel_rfl) (by kernel_rfl) (by kernel_rfl) (fun _ _ _ h => h) (Or.inl ⟨by rfl, ?_⟩) (by assumption) ?_
      rotate_left
      · intro w0 hSw; (try dsimp only at hSw); go_simp <;> with_reducible rfl
      try simp only [Act.put, List.getElem_toArray, List.getElem_cons_zero, List.getElem_cons_succ, List.setIfInBounds_toArray, List.set_cons_zero, List.set_cons_succ]
      refine wpAnyH_ready (rs := [3]) (by kernel_rfl) (by simp) ?_
      refine AllReadyH.cons rfl (fun K hK => ?_) AllReadyH.nil
      go_simp
      (go_at_call 9; refine DO.out.mono ?_; rintro e v1 ⟨rfl, st2, h2, qs2, j2, r2, k2, nx2⟩)
      (try go_wp2_with fail)
      refine hK.out _ _ ?_ (fun hHeld => ?_)
      · (exact KC.out _ (k2.block A YA.out))
      clear hK K
      try simp only [Act.put, List.getElem_toArray, List.getElem_cons_zero, List.getElem_cons_succ, List.setIfInBounds_toArray, List.set_cons_zero, List.set_cons_succ]
      refine wpAnyH_take (i := 4) (v := ?_) rfl (by kernel_rfl) (by kernel_rfl) (by kernel_rfl) (fun _ _ _ h => h) (Or.inl ⟨by rfl, ?_⟩) (by assumption) ?_
      rotate_left
      · intro w0 hSw; (try dsimp only at hSw); go_simp <;> with_reducible rfl
      try simp only [Act.put, List.getElem_toArray, List.getElem_cons_zero, List.getElem_cons_succ, List.setIfInBounds_toArray, List.set_cons_zero, List.set_cons_succ]
      refine wpAnyH_take (i := 5) (v := ?_) rfl (by kernel_rfl) (by kernel_rfl) (by kernel_rfl) (fun _ _ _ h => h) (Or.inl ⟨by rfl, ?_⟩) (by assumption) ?_
      rotate_left
      · intro w0 hSw; (try dsimp only at hSw); go_simp <;> with_reducible rfl
      try simp only [Act.put, List.getElem_toArray, List.getElem_cons_zero, List.getElem_cons_succ, List.setIfInBounds_toArray, List.set_cons_zero, List.set_cons_succ]
      refine wpAnyH_take (i := 6) (v := ?_) rfl (by kernel_rfl) (by kernel_rfl) (by kernel_rfl) (fun _ _ _ h => h) (Or.inl ⟨by rfl, ?_⟩) (by assumption) ?_
      rotate_left
      · intro w0 hSw; (try dsimp only at hSw); go_simp <;> with_reducible rfl
      try simp only [Act.put, List.getElem_toArray, List.getElem_cons_zero, List.getElem_cons_succ, List.setIfInBounds_toArray, List.set_cons_zero, List.set_cons_succ]
      refine wpAnyH_take (i := 7) (v := ?_) rfl (by kernel_rfl) (by kernel_rfl) (by kernel_rfl) (fun _ _ _ h => h) (Or.inl ⟨by rfl, ?_⟩) (by assumption) ?_
      rotate_left
      · intro w0 hSw; (try dsimp only at hSw); go_simp <;> with_reducible rfl
      try simp only [Act.put, List.getElem_toArray, List.getElem_cons_zero, List.getElem_cons_succ, List.setIfInBounds_toArray, List.set_cons_zero, List.set_cons_succ]
      refine wpAnyH_take (i := 8) (v := ?_) rfl (by kernel_rfl) (by kernel_rfl) (by kernel_rfl) (fun _ _ _ h => h) (Or.inl ⟨by rfl, ?_⟩) (by assumption) ?_
      rotate_left
      · intro w0 hSw; (try dsimp only at hSw); go_simp <;> with_reducible rfl
      try simp only [Act.put, List.getElem_toArray, List.getElem_cons_zero, List.getElem_cons_succ, List.setIfInBounds_toArray, List.set_cons_zero, List.set_cons_succ]
      refine wpAnyH_take (i := 9) (v := ?_) rfl (by kernel_rfl) (by kernel_rfl) (by kernel_rfl) (fun _ _ _ h => h) (Or.inl ⟨by rfl, ?_⟩) (by assumption) ?_
      rotate_left
      · intro w0 hSw; (try dsimp only at hSw); go_simp <;> with_reducible rfl
      try simp only [Act.put, List.getElem_toArray, List.getElem_cons_zero, List.getElem_cons_succ, List.setIfInBounds_toArray, List.set_cons_zero, List.set_cons_succ]
      refine wpAnyH_ready (rs := [10]) (by kernel_rfl) (by simp) ?_
      refine AllReadyH.cons rfl (fun K hK => ?_) AllReadyH.nil
      go_simp
      (go_at_call 10; refine (looks_any j2 r2 g HG.out.1).mono ?_; rintro e v2 ⟨rfl, h3, j3, r3, k3⟩)
      (try go_wp2_with fail)
      refine hK.out _ _ ?_ (fun hHeld => ?_)
      · (exact KC.out _ ((k3.block A YA.out).trans (k2.block A YA.out)))
      clear hK K
      try simp only [Act.put, List.getElem_toArray, List.getElem_cons_zero, List.getElem_cons_succ, List.setIfInBounds_toArray, List.set_cons_zero, List.set_cons_succ]
      refine wpAnyH_take (i := 11) (v := ?_) rfl (by kernel_rfl) (by kernel_rfl) (by kernel_rfl) (fun _ _ _ h => h) (Or.inl ⟨by rfl, ?_⟩) (by assumption) ?_
      rotate_left
      · intro w0 hSw; (try dsimp only at hSw); go_simp <;> with_reducible rfl
      try simp only [Act.put, List.getElem_toArray, List.getElem_cons_zero, List.getElem_cons_succ, List.setIfInBounds_toArray, List.set_cons_zero, List.set_cons_succ]
      refine wpAnyH_take (i := 12) (v := ?_) rfl (by kernel_rfl) (by kernel_rfl) (by kernel_rfl) (fun _ _ _ h => h) (Or.inl ⟨by rfl, ?_⟩) (by assumption) ?_
      rotate_left
      · intro w0 hSw; (try dsimp only at hSw); go_simp <;> with_reducible rfl
      try simp only [Act.put, List.getElem_toArray, List.getElem_cons_zero, List.getElem_cons_succ, List.setIfInBounds_toArray, List.set_cons_zero, List.set_cons_succ]
      refine wpAnyH_take (i := 13) (v := ?_) rfl (by kernel_rfl) (by kernel_rfl) (by kernel_rfl) (fun _ _ _ h => h) (Or.inl ⟨by rfl, ?_⟩) (by assumption) ?_
      rotate_left
      · intro w0 hSw; (try dsimp only at hSw); go_simp <;> with_reducible rfl
      try simp only [Act.put, List.getElem_toArray, List.getElem_cons_zero, List.getElem_cons_succ, List.setIfInBounds_toArray, List.set_cons_zero, List.set_cons_succ]
      refine wpAnyH_take (i := 14) (v := ?_) rfl (by kernel_rfl) (by kernel_rfl) (by kernel_rfl) (fun _ _ _ h => h) (Or.inl ⟨by rfl, ?_⟩) (by assumption) ?_
      rotate_left
      · intro w0 hSw; (try dsimp only at hSw); go_simp <;> with_reducible rfl
      try simp only [Act.put, List.getElem_toArray, List.getElem_cons_zero, List.getElem_cons_succ, List.setIfInBounds_toArray, List.set_cons_zero, List.set_cons_succ]
      refine wpAnyH_take (i := 15) (v := ?_) rfl (by kernel_rfl) (by kernel_rfl) (by kernel_rfl) (fun _ _ _ h => h) (Or.inl ⟨by rfl, ?_⟩) (by assumption) ?_
      rotate_left
      · intro w0 hSw; (try dsimp only at hSw); go_simp <;> with_reducible rfl
      try simp only [Act.put, List.getElem_toArray, List.getElem_cons_zero, List.getElem_cons_succ, List.setIfInBounds_toArray, List.set_cons_zero, List.set_cons_succ]
      refine wpAnyH_take (i := 16) (v := ?_) rfl (by kernel_rfl) (by kernel_rfl) (by kernel_rfl) (fun _ _ _ h => h) (Or.inl ⟨by rfl, ?_⟩) (by assumption) ?_
      rotate_left
      · intro w0 hSw; (try dsimp only at hSw); go_simp <;> with_reducible rfl
      try simp only [Act.put, List.getElem_toArray, List.getElem_cons_zero, List.getElem_cons_succ, List.setIfInBounds_toArray, List.set_cons_zero, List.set_cons_succ]
      refine wpAnyH_take (i := 17) (v := ?_) rfl (by kernel_rfl) (by kernel_rfl) (by kernel_rfl) (fun _ _ _ h => h) (Or.inl ⟨by rfl, ?_⟩) (by assumption) ?_
      rotate_left
      · intro w0 hSw; (try dsimp only at hSw); go_simp <;> with_reducible rfl
      try simp only [Act.put, List.getElem_toArray, List.getElem_cons_zero, List.getElem_cons_succ, List.setIfInBounds_toArray, List.set_cons_zero, List.set_cons_succ]
      refine wpAnyH_ready (rs := [18]) (by kernel_rfl) (by simp) ?_
      refine AllReadyH.cons rfl (fun K hK => ?_) AllReadyH.nil
      go_simp
      (go_at_call 10; refine (looks_any j3 r3 kk HG.out.2).mono ?_; rintro e v3 ⟨rfl, h4, j4, r4, k4⟩)
      (try go_wp2_with fail)
      refine hK.out _ _ ?_ (fun hHeld => ?_)
      · (exact KC.out _ ((k4.block A YA.out).trans ((k3.block A YA.out).trans (k2.block A YA.out))))
      clear hK K
      try simp only [Act.put, List.getElem_toArray, List.getElem_cons_zero, List.getElem_cons_succ, List.setIfInBounds_toArray, List.set_cons_zero, List.set_cons_succ]
      refine wpAnyH_take (i := 19) (v := ?_) rfl (by kernel_rfl) (by kernel_rfl) (by kernel_rfl) (fun _ _ _ h => h) (Or.inl ⟨by rfl, ?_⟩) (by assumption) ?_
      rotate_left
      · intro w0 hSw; (try dsimp only at hSw); go_simp <;> with_reducible rfl
      try simp only [Act.put, List.getElem_toArray, List.getElem_cons_zero, List.getElem_cons_succ, List.setIfInBounds_toArray, List.set_cons_zero, List.set_cons_succ]
      refine wpAnyH_take (i := 20) (v := ?_) rfl (by kernel_rfl) (by kernel_rfl) (by kernel_rfl) (fun _ _ _ h => h) (Or.inl ⟨by rfl, ?_⟩) (by assumption) ?_
      rotate_left
      · intro w0 hSw; (try dsimp only at hSw); go_simp <;> with_reducible rfl
      try simp only [Act.put, List.getElem_toArray, List.getElem_cons_zero, List.getElem_cons_succ, List.setIfInBounds_toArray, List.set_cons_zero, List.set_cons_succ]
      refine wpAnyH_take (i := 21) (v := ?_) rfl (by kernel_rfl) (by kernel_rfl) (by kernel_rfl) (fun _ _ _ h => h) (Or.inl ⟨by rfl, ?_⟩) (by assumption) ?_
      rotate_left
      · intro w0 hSw; (try dsimp only at hSw); go_simp <;> with_reducible rfl
      try simp only [Act.put, List.getElem_toArray, List.getElem_cons_zero, List.getElem_cons_succ, List.setIfInBounds_toArray, List.set_cons_zero, List.set_cons_succ]
      refine wpAnyH_take (i := 22) (v := ?_) rfl (by kernel_rfl) (by kernel_rfl) (by kernel_rfl) (fun _ _ _ h => h) (Or.inl ⟨by rfl, ?_⟩) (by assumption) ?_
      rotate_left
      · intro w0 hSw; (try dsimp only at hSw); go_simp <;> with_reducible rfl
      try simp only [Act.put, List.getElem_toArray, List.getElem_cons_zero, List.getElem_cons_succ, List.setIfInBounds_toArray, List.set_cons_zero, List.set_cons_succ]
      refine wpAnyH_take (i := 23) (v := ?_) rfl (by kernel_rfl) (by kernel_rfl) (by kernel_rfl) (fun _ _ _ h => h) (Or.inl ⟨by rfl, ?_⟩) (by assumption) ?_
      rotate_left
      · intro w0 hSw; (try dsimp only at hSw); go_simp <;> with_reducible rfl
      try simp only [Act.put, List.getElem_toArray, List.getElem_cons_zero, List.getElem_cons_succ, List.setIfInBounds_toArray, List.set_cons_zero, List.set_cons_succ]
      refine wpAnyH_ready (rs := [24]) (by kernel_rfl) (by simp) ?_
      refine AllReadyH.cons rfl (fun K hK => ?_) AllReadyH.nil
      go_simp
      (go_at_call 10; refine (looks_any j4 r4 0 (by unfold wfk; decide)).mono ?_; rintro e v4 ⟨rfl, h5, j5, r5, k5⟩)
      (try go_wp2_with fail)
      refine hK.out _ _ ?_ (fun hHeld => ?_)
      · (exact KC.out _ ((k5.block A YA.out).trans ((k4.block A YA.out).trans ((k3.block A YA.out).trans (k2.block A YA.out)))))
      clear hK K
      try simp only [Act.put, List.getElem_toArray, List.getElem_cons_zero, List.getElem_cons_succ, List.setIfInBounds_toArray, List.set_cons_zero, List.set_cons_succ]
      refine wpAnyH_take (i := 25) (v := ?_) rfl (by kernel_rfl) (by kernel_rfl) (by kernel_rfl) (fun _ _ _ h => h) (Or.inl ⟨by rfl, ?_⟩) (by assumption) ?_
      rotate_left
      · intro w0 hSw; (try dsimp only at hSw); go_simp <;> with_reducible rfl
      try simp only [Act.put, List.getElem_toArray, List.getElem_cons_zero, List.getElem_cons_succ, List.setIfInBounds_toArray, List.set_cons_zero, List.set_cons_succ]
      refine wpAnyH_take (i := 26) (v := ?_) rfl (by kernel_rfl) (by kernel_rfl) (by kernel_rfl) (fun _ _ _ h => h) (Or.inl ⟨by rfl, ?_⟩) (by assumption) ?_
      rotate_left
      · intro w0 hSw; (try dsimp only at hSw); go_simp <;> with_reducible rfl
      try simp only [Act.put, List.getElem_toArray, List.getElem_cons_zero, List.getElem_cons_succ, List.setIfInBounds_toArray, List.set_cons_zero, List.set_cons_succ]
      refine wpAnyH_take (i := 27) (v := ?_) rfl (by kernel_rfl) (by kernel_rfl) (by kernel_rfl) (fun _ _ _ h => h) (Or.inl ⟨by rfl, ?_⟩) (by assumption) ?_
      rotate_left
      · intro w0 hSw; (try dsimp only at hSw); go_simp <;> with_reducible rfl
      try simp only [Act.put, List.getElem_toArray, List.getElem_cons_zero, List.getElem_cons_succ, List.setIfInBounds_toArray, List.set_cons_zero, List.set_cons_succ]
      refine wpAnyH_take (i := 28) (v := ?_) rfl (by kernel_rfl) (by kernel_rfl) (by kernel_rfl) (fun _ _ _ h => h) (Or.inl ⟨by rfl, ?_⟩) (by assumption) ?_
      rotate_left
      · intro w0 hSw; (try dsimp only at hSw); go_simp <;> with_reducible rfl
      try simp only [Act.put, List.getElem_toArray, List.getElem_cons_zero, List.getElem_cons_succ, List.setIfInBounds_toArray, List.set_cons_zero, List.set_cons_succ]
      have TT2 : Hid (qs2.T = tt) := nx2.1.trans TT.out
      have IU := hide (inuseW j5 r5)
      have RM := hide (roomW j5 r5)
      have AL := hide (fun u (b : Below v4.heap.size v4 u) => allW (j5.below b) r5)
      obtain ⟨y2, YH⟩ : ∃ vq, Hid (∀ u, Below v4.heap.size v4 u → u.cell? ⟨G, 2, none⟩ = some vq ∧ (u.cell? ⟨A, 0, none⟩ = some (.int .i64 wh) ∧ u.cell? ⟨A, 1, none⟩ = some (.int .i64 g) ∧ u.cell? ⟨A, 2, none⟩ = some (.int .i64 kk) ∧ u.cell? ⟨A, 3, none⟩ = some (.slice ca nc cc)) ∧ ∃ oq cq, vq = .slice oq qs2.L.length cq) := by
        obtain ⟨vq, -, qx, -⟩ := j5
        refine ⟨vq, fun u b => ⟨(qx.below b).cells.2.2, ⟨cellB hHeld.1 b, cellB hHeld.2.1 b, cellB hHeld.2.2.1 b, cellB hHeld.2.2.2 b⟩, own_sl qx.ow⟩⟩
      obtain ⟨oq, cq, rfl⟩ := (YH.out _ (Below.refl _ _)).2.2
      have KB5 : Hid (∀ u, Below v4.heap.size v4 u → Kp (Lw w) w u ∧ ∃ st' h' qs', JW (Lw w) B G u st' h' qs' ∧ Rw st' h' qs' ∧ qs'.T = tt) := fun u b => ⟨Wa.kp_b (KN.out.trans (Wa.Kp.mono (((k2.trans k3).trans k4).trans k5) YI.out)) b (fun x q => j5.ylt x (YI.out x q)), st2, h5, qs2, (j5.below b).less YI.out, r5, TT2.out⟩
      have RS := hide r5
      have ATQ : Hid (∀ u, Below v4.heap.size v4 u → ∀ gx : Int, Calls Try.prog 14 #[.pointer (some ⟨G, 0, none⟩), .int .i64 gx] u fun r w' => r = .returned (.int .i64 (at_ qs2.L gx)) ∧ Below u.heap.size u w') := by
        have hl := r5.len j5
        obtain ⟨vq, -, qx, -⟩ := j5
        exact fun u b gx => at_any (qx.below b) gx hl
      have HTq := TT2.out
      rw [HTq] at RM
      clear HTq
      have QL := hide (r5.len j5)
      obtain ⟨nq, hnq⟩ : ∃ nq, qs2.L.length = nq := ⟨_, rfl⟩
      rw [hnq] at IU RM AL YH QL
      have HNQ := hide hnq
      clear hnq
      have dq : ((nq : Int) != (nq : Int)) = false := by simp
      have dr : (decide ((nq : Int) < (tt : Int)) != decide ((nq : Int) < (tt : Int))) = false := by simp
      have hql : (nq : Int) ≤ 100000 := by have := QL.out; omega
      refine held_more (S' := (fun w' => (w'.cell? ⟨A, 0, none⟩ = some (.int .i64 wh) ∧ w'.cell? ⟨A, 1, none⟩ = some (.int .i64 g) ∧ w'.cell? ⟨A, 2, none⟩ = some (.int .i64 kk) ∧ w'.cell? ⟨A, 3, none⟩ = some (.slice ca nc cc)) ∧ w'.cell? ⟨G, 2, none⟩ = some (.slice oq nq cq))) (fun _ q => q.1) _ _ _ _ ?_
      have hHeld2 : (fun w' => (w'.cell? ⟨A, 0, none⟩ = some (.int .i64 wh) ∧ w'.cell? ⟨A, 1, none⟩ = some (.int .i64 g) ∧ w'.cell? ⟨A, 2, none⟩ = some (.int .i64 kk) ∧ w'.cell? ⟨A, 3, none⟩ = some (.slice ca nc cc)) ∧ w'.cell? ⟨G, 2, none⟩ = some (.slice oq nq cq)) v4 := ⟨hHeld, (YH.out _ (Below.refl _ _)).1⟩
      clear hHeld
      refine wpAnyH_take (i := 30) (v := ?_) rfl (by kernel_rfl) (by kernel_rfl) (by kernel_rfl) (fun _ _ _ h => h) (Or.inl ⟨by rfl, ?_⟩) (by assumption) ?_
      rotate_left
      · intro w0 hSw; (try dsimp only at hSw); go_simp <;> with_reducible rfl
      try simp only [Act.put, List.getElem_toArray, List.getElem_cons_zero, List.getElem_cons_succ, List.setIfInBounds_toArray, List.set_cons_zero, List.set_cons_succ]
      refine wpAnyH_take (i := 31) (v := ?_) rfl (by kernel_rfl) (by kernel_rfl) (by kernel_rfl) (fun _ _ _ h => h) (Or.inl ⟨by rfl, ?_⟩) (by assumption) ?_
      rotate_left
      · intro w0 hSw; (try dsimp only at hSw); go_simp <;> with_reducible rfl
      try simp only [Act.put, List.getElem_toArray, List.getElem_cons_zero, List.getElem_cons_succ, List.setIfInBounds_toArray, List.set_cons_zero, List.set_cons_succ]
      refine wpAnyH_take (i := 32) (v := ?_) rfl (by kernel_rfl) (by kernel_rfl) (by kernel_rfl) (fun _ _ _ h => h) (Or.inl ⟨by rfl, ?_⟩) (by assumption) ?_
      rotate_left
      · intro w0 hSw; (try dsimp only at hSw); go_simp <;> with_reducible rfl
      try simp only [Act.put, List.getElem_toArray, List.getElem_cons_zero, List.getElem_cons_succ, List.setIfInBounds_toArray, List.set_cons_zero, List.set_cons_succ]
      refine wpAnyH_take (i := 33) (v := ?_) rfl (by kernel_rfl) (by kernel_rfl) (by kernel_rfl) (fun _ _ _ h => h) (Or.inl ⟨by rfl, ?_⟩) (by assumption) ?_
      rotate_left
      · intro w0 hSw; (try dsimp only at hSw); go_simp <;> with_reducible rfl
      try simp only [Act.put, List.getElem_toArray, List.getElem_cons_zero, List.getElem_cons_succ, List.setIfInBounds_toArray, List.set_cons_zero, List.set_cons_succ]
      refine wpAnyH_take (i := 34) (v := ?_) rfl (by kernel_rfl) (by kernel_rfl) (by kernel_rfl) (fun _ _ _ h => h) (Or.inl ⟨by rfl, ?_⟩) (by assumption) ?_
      rotate_left
      · intro w0 hSw; (try dsimp only at hSw); go_simp <;> with_reducible rfl
      try simp only [Act.put, List.getElem_toArray, List.getElem_cons_zero, List.getElem_cons_succ, List.setIfInBounds_toArray, List.set_cons_zero, List.set_cons_succ]
      refine wpAnyH_ready (rs := [29]) (by kernel_rfl) (by simp) ?_
      refine AllReadyH.cons rfl (fun K hK => ?_) AllReadyH.nil
      go_simp
      (go_at_call 11; refine IU.out.mono ?_; rintro e v5 ⟨rfl, e5⟩; obtain rfl := e5.symm)
      (try go_wp2_with fail)
      refine hK.out _ _ ?_ (fun hHeld => ?_)
      · (exact ⟨(YH.out _ (Below.refl _ _)).2.1, (YH.out _ (Below.refl _ _)).1⟩)
      clear hK K
      try simp only [Act.put, List.getElem_toArray, List.getElem_cons_zero, List.getElem_cons_succ, List.setIfInBounds_toArray, List.set_cons_zero, List.set_cons_succ]
      refine wpAnyH_take (i := 35) (v := ?_) rfl (by kernel_rfl) (by kernel_rfl) (by kernel_rfl) (fun _ _ _ h => h) (Or.inl ⟨by rfl, ?_⟩) (by assumption) ?_
      rotate_left
      · intro w0 hSw; (try dsimp only at hSw); go_simp <;> with_reducible rfl
      try simp only [Act.put, List.getElem_toArray, List.getElem_cons_zero, List.getElem_cons_succ, List.setIfInBounds_toArray, List.set_cons_zero, List.set_cons_succ]
      refine wpAnyH_take (i := 36) (v := ?_) rfl (by kernel_rfl) (by kernel_rfl) (by kernel_rfl) (fun _ _ _ h => h) (Or.inl ⟨by rfl, ?_⟩) (by assumption) ?_
      rotate_left
      · intro w0 hSw; (try dsimp only at hSw); go_simp <;> with_reducible rfl
      try simp only [Act.put, List.getElem_toArray, List.getElem_cons_zero, List.getElem_cons_succ, List.setIfInBounds_toArray, List.set_cons_zero, List.set_cons_succ]
      refine wpAnyH_take (i := 37) (v := ?_) rfl (by kernel_rfl) (by kernel_rfl) (by kernel_rfl) (fun _ _ _ h => h) (Or.inl ⟨by rfl, ?_⟩) (by assumption) ?_
      rotate_left
      · intro w0 hSw; (try dsimp only at hSw); go_simp <;> with_reducible rfl
      try simp only [Act.put, List.getElem_toArray, List.getElem_cons_zero, List.getElem_cons_succ, List.setIfInBounds_toArray, List.set_cons_zero, List.set_cons_succ]
      refine wpAnyH_take (i := 38) (v := ?_) rfl (by kernel_rfl) (by kernel_rfl) (by kernel_rfl) (fun _ _ _ h => h) (Or.inl ⟨by rfl, ?_⟩) (by assumption) ?_
      rotate_left
      · intro w0 hSw; (try dsimp only at hSw); go_simp <;> with_reducible rfl
      try simp only [Act.put, List.getElem_toArray, List.getElem_cons_zero, List.getElem_cons_succ, List.setIfInBounds_toArray, List.set_cons_zero, List.set_cons_succ]
      refine wpAnyH_take (i := 40) (v := ?_) rfl (by kernel_rfl) (by kernel_rfl) (by kernel_rfl) (fun _ _ _ h => h) (Or.inl ⟨by rfl, ?_⟩) (by assumption) ?_
      rotate_left
      · intro w0 hSw; (try dsimp only at hSw); go_simp <;> with_reducible rfl
      try simp only [Act.put, List.getElem_toArray, List.getElem_cons_zero, List.getElem_cons_succ, List.setIfInBounds_toArray, List.set_cons_zero, List.set_cons_succ]
      refine wpAnyH_take (i := 41) (v := ?_) rfl (by kernel_rfl) (by kernel_rfl) (by kernel_rfl) (fun _ _ _ h => h) (Or.inl ⟨by rfl, ?_⟩) (by assumption) ?_
      rotate_left
      · intro w0 hSw; (try dsimp only at hSw); go_simp <;> with_reducible rfl
      try simp only [Act.put, List.getElem_toArray, List.getElem_cons_zero, List.getElem_cons_succ, List.setIfInBounds_toArray, List.set_cons_zero, List.set_cons_succ]
      refine wpAnyH_take (i := 42) (v := ?_) rfl (by kernel_rfl) (by kernel_rfl) (by kernel_rfl) (fun _ _ _ h => h) (Or.inl ⟨by rfl, ?_⟩) (by assumption) ?_
      rotate_left
      · intro w0 hSw; (try dsimp only at hSw); go_simp <;> with_reducible rfl
      try simp only [Act.put, List.getElem_toArray, List.getElem_cons_zero, List.getElem_cons_succ, List.setIfInBounds_toArray, List.set_cons_zero, List.set_cons_succ]
      refine wpAnyH_take (i := 43) (v := ?_) rfl (by kernel_rfl) (by kernel_rfl) (by kernel_rfl) (fun _ _ _ h => h) (Or.inl ⟨by rfl, ?_⟩) (by assumption) ?_
      rotate_left
      · intro w0 hSw; (try dsimp only at hSw); go_simp <;> with_reducible rfl
      try simp only [Act.put, List.getElem_toArray, List.getElem_cons_zero, List.getElem_cons_succ, List.setIfInBounds_toArray, List.set_cons_zero, List.set_cons_succ]
      refine wpAnyH_take (i := 44) (v := ?_) rfl (by kernel_rfl) (by kernel_rfl) (by kernel_rfl) (fun _ _ _ h => h) (Or.inl ⟨by rfl, ?_⟩) (by assumption) ?_
      rotate_left
      · intro w0 hSw; (try dsimp only at hSw); go_simp <;> with_reducible rfl
      try simp only [Act.put, List.getElem_toArray, List.getElem_cons_zero, List.getElem_cons_succ, List.setIfInBounds_toArray, List.set_cons_zero, List.set_cons_succ]
      refine wpAnyH_take (i := 45) (v := ?_) rfl (by kernel_rfl) (by kernel_rfl) (by kernel_rfl) (fun _ _ _ h => h) (Or.inl ⟨by rfl, ?_⟩) (by assumption) ?_
      rotate_left
      · intro w0 hSw; (try dsimp only at hSw); go_simp <;> with_reducible rfl
      try simp only [Act.put, List.getElem_toArray, List.getElem_cons_zero, List.getElem_cons_succ, List.setIfInBounds_toArray, List.set_cons_zero, List.set_cons_succ]
      refine wpAnyH_take (i := 46) (v := ?_) rfl (by kernel_rfl) (by kernel_rfl) (by kernel_rfl) (fun _ _ _ h => h) (Or.inl ⟨by rfl, ?_⟩) (by assumption) ?_
      rotate_left
      · intro w0 hSw; (try dsimp only at hSw); go_simp <;> with_reducible rfl
      try simp only [Act.put, List.getElem_toArray, List.getElem_cons_zero, List.getElem_cons_succ, List.setIfInBounds_toArray, List.set_cons_zero, List.set_cons_succ]
      refine wpAnyH_ready (rs := [39]) (by kernel_rfl) (by simp) ?_
      refine AllReadyH.cons rfl (fun K hK => ?_) AllReadyH.nil
      go_simp
      (go_at_call 12; refine RM.out.mono ?_; rintro e v6 ⟨rfl, b6⟩)
      (try go_wp2_with fail)
      refine hK.out _ _ ?_ (fun hHeld => ?_)
      · (exact ⟨(YH.out _ b6).2.1, (YH.out _ b6).1⟩)
      clear hK K
      try simp only [Act.put, List.getElem_toArray, List.getElem_cons_zero, List.getElem_cons_succ, List.setIfInBounds_toArray, List.set_cons_zero, List.set_cons_succ]
      refine wpAnyH_take (i := 47) (v := ?_) rfl (by kernel_rfl) (by kernel_rfl) (by kernel_rfl) (fun _ _ _ h => h) (Or.inl ⟨by rfl, ?_⟩) (by assumption) ?_
      rotate_left
      · intro w0 hSw; (try dsimp only at hSw); go_simp <;> with_reducible rfl
      try simp only [Act.put, List.getElem_toArray, List.getElem_cons_zero, List.getElem_cons_succ, List.setIfInBounds_toArray, List.set_cons_zero, List.set_cons_succ]
      refine wpAnyH_take (i := 48) (v := ?_) rfl (by kernel_rfl) (by kernel_rfl) (by kernel_rfl) (fun _ _ _ h => h) (Or.inl ⟨by rfl, ?_⟩) (by assumption) ?_
      rotate_left
      · intro w0 hSw; (try dsimp only at hSw); go_simp <;> with_reducible rfl
      try simp only [Act.put, List.getElem_toArray, List.getElem_cons_zero, List.getElem_cons_succ, List.setIfInBounds_toArray, List.set_cons_zero, List.set_cons_succ]
      refine wpAnyH_take (i := 49) (v := ?_) rfl (by kernel_rfl) (by kernel_rfl) (by kernel_rfl) (fun _ _ _ h => h) (Or.inl ⟨by rfl, ?_⟩) (by assumption) ?_
      rotate_left
      · intro w0 hSw; (try dsimp only at hSw); go_simp <;> with_reducible rfl
      try simp only [Act.put, List.getElem_toArray, List.getElem_cons_zero, List.getElem_cons_succ, List.setIfInBounds_toArray, List.set_cons_zero, List.set_cons_succ]
      refine wpAnyH_take (i := 50) (v := ?_) rfl (by kernel_rfl) (by kernel_rfl) (by kernel_rfl) (fun _ _ _ h => h) (Or.inl ⟨by rfl, ?_⟩) (by assumption) ?_
      rotate_left
      · intro w0 hSw; (try dsimp only at hSw); go_simp <;> with_reducible rfl
      try simp only [Act.put, List.getElem_toArray, List.getElem_cons_zero, List.getElem_cons_succ, List.setIfInBounds_toArray, List.set_cons_zero, List.set_cons_succ]
      refine wpAnyH_take (i := 53) (v := ?_) rfl (by kernel_rfl) (by kernel_rfl) (by kernel_rfl) (fun _ _ _ h => h) (Or.inl ⟨by rfl, ?_⟩) (by assumption) ?_
      rotate_left
      · intro w0 hSw; (try dsimp only at hSw); go_simp <;> with_reducible rfl
      try simp only [Act.put, List.getElem_toArray, List.getElem_cons_zero, List.getElem_cons_succ, List.setIfInBounds_toArray, List.set_cons_zero, List.set_cons_succ]
      refine wpAnyH_take (i := 54) (v := ?_) rfl (by kernel_rfl) (by kernel_rfl) (by kernel_rfl) (fun _ _ _ h => h) (Or.inl ⟨by rfl, ?_⟩) (by assumption) ?_
      rotate_left
      · intro w0 hSw; (try dsimp only at hSw); go_simp <;> with_reducible rfl
      try simp only [Act.put, List.getElem_toArray, List.getElem_cons_zero, List.getElem_cons_succ, List.setIfInBounds_toArray, List.set_cons_zero, List.set_cons_succ]
      refine wpAnyH_take (i := 55) (v := ?_) rfl (by kernel_rfl) (by kernel_rfl) (by kernel_rfl) (fun _ _ _ h => h) (Or.inl ⟨by rfl, ?_⟩) (by assumption) ?_
      rotate_left
      · intro w0 hSw; (try dsimp only at hSw); go_simp <;> with_reducible rfl
      try simp only [Act.put, List.getElem_toArray, List.getElem_cons_zero, List.getElem_cons_succ, List.setIfInBounds_toArray, List.set_cons_zero, List.set_cons_succ]
      refine wpAnyH_take (i := 56) (v := ?_) rfl (by kernel_rfl) (by kernel_rfl) (by kernel_rfl) (fun _ _ _ h => h) (Or.inl ⟨by rfl, ?_⟩) (by assumption) ?_
      rotate_left
      · intro w0 hSw; (try dsimp only at hSw); go_simp <;> with_reducible rfl
      try simp only [Act.put, List.getElem_toArray, List.getElem_cons_zero, List.getElem_cons_succ, List.setIfInBounds_toArray, List.set_cons_zero, List.set_cons_succ]
      refine wpAnyH_take (i := 57) (v := ?_) rfl (by kernel_rfl) (by kernel_rfl) (by kernel_rfl) (fun _ _ _ h => h) (Or.inl ⟨by rfl, ?_⟩) (by assumption) ?_
      rotate_left
      · intro w0 hSw; (try dsimp only at hSw); go_simp <;> with_reducible rfl
      try simp only [Act.put, List.getElem_toArray, List.getElem_cons_zero, List.getElem_cons_succ, List.setIfInBounds_toArray, List.set_cons_zero, List.set_cons_succ]
      refine wpAnyH_ready (rs := [51]) (by kernel_rfl) (by simp) ?_
      refine AllReadyH.cons rfl (fun K hK => ?_) AllReadyH.nil
      go_simp
      (go_at_call 13; refine (AL.out _ b6).mono ?_; rintro e v7 ⟨o7, c7, ks7, rfl, -, -, -, b7⟩)
      (try go_wp2_with fail)
      refine hK.out _ _ ?_ (fun hHeld => ?_)
      · (exact ⟨(YH.out _ (btr b6 b7)).2.1, (YH.out _ (btr b6 b7)).1⟩)
      clear hK K
      try simp only [Act.put, List.getElem_toArray, List.getElem_cons_zero, List.getElem_cons_succ, List.setIfInBounds_toArray, List.set_cons_zero, List.set_cons_succ]
      refine wpAnyH_take (i := 52) (v := ?_) rfl (by kernel_rfl) (by kernel_rfl) (by kernel_rfl) (fun _ _ _ h => h) (Or.inl ⟨by rfl, ?_⟩) (by assumption) ?_
      rotate_left
      · intro w0 hSw; (try dsimp only at hSw); go_simp <;> with_reducible rfl
      try simp only [Act.put, List.getElem_toArray, List.getElem_cons_zero, List.getElem_cons_succ, List.setIfInBounds_toArray, List.set_cons_zero, List.set_cons_succ]
      refine wpAnyH_take (i := 58) (v := ?_) rfl (by kernel_rfl) (by kernel_rfl) (by kernel_rfl) (fun _ _ _ h => h) (Or.inl ⟨by rfl, ?_⟩) (by assumption) ?_
      rotate_left
      · intro w0 hSw; (try dsimp only at hSw); go_simp <;> with_reducible rfl
      try simp only [Act.put, List.getElem_toArray, List.getElem_cons_zero, List.getElem_cons_succ, List.setIfInBounds_toArray, List.set_cons_zero, List.set_cons_succ]
      refine wpAnyH_take (i := 59) (v := ?_) rfl (by kernel_rfl) (by kernel_rfl) (by kernel_rfl) (fun _ _ _ h => h) (Or.inl ⟨by rfl, ?_⟩) (by assumption) ?_
      rotate_left
      · intro w0 hSw; (try dsimp only at hSw); go_simp <;> with_reducible rfl
      try simp only [Act.put, List.getElem_toArray, List.getElem_cons_zero, List.getElem_cons_succ, List.setIfInBounds_toArray, List.set_cons_zero, List.set_cons_succ]
      refine wpAnyH_done (by kernel_rfl) ?_ _
      have B7 := hide (btr b6 b7)
      clear b6 b7 k2 k3 k4 k5 j2 j3 j4 j5 r2 r3 r4 r5 hHeld
      go_wp2_with fail
      refine (AL.out _ B7.out).mono ?_
      rintro e v8 ⟨o8, c8, ks, rfl, hkl8, ks8, a8, b8⟩
      have KS := hide ks8
      have KL := hide hkl8
      have A8 := hide (fun u (b : Below v8.heap.size v8 u) => a8.below b)
      have B8 := hide (btr B7.out b8)
      clear ks8 hkl8 a8 b8 B7
      go_wp2_with fail
      rename World => wz
      go_loopw [114] (fun i wq => ∃ i8 : Nat, i8 ≤ nq ∧ i = .int .i64 (i8 : Int) ∧ Below wz.heap.size wz wq) (fun i _ => nq - (intOf i).toNat)
      case atStart => exact ⟨0, Nat.zero_le _, rfl, Below.refl _ _⟩
      case round =>
        obtain ⟨i8, hi8, rfl, bq⟩ := hrel
        by_cases hlt8 : i8 < nq
        · have hlt8' : (i8 : Int) < (nq : Int) := by omega
          obtain ⟨b9, f9, rfl, x9⟩ := A8.out _ bq i8 (by have := KL.out; omega)
          have KM : Hid ((st2.f (Ba.nth ks i8)).isSome = true) := (KS.out.mem _).1 (by rw [Ba.nth_lt ks i8 (by have := KL.out; omega)]; exact List.getElem_mem _)
          have BQ := hide (btr B8.out bq)
          have BQZ := hide bq
          have AA : Hid (∀ u, Below v4.heap.size v4 u → Calls Try.prog 14 #[.pointer (some ⟨G, 0, none⟩), .int .i64 (Ba.nth ks i8)] u fun r w' => (∃ q : Nat, r = .returned (.int .i64 (q : Int))) ∧ Below u.heap.size u w') := fun u b => by
            obtain ⟨q, o, bb, ll, -, e, -⟩ := RS.out.some_at KM.out
            refine ((ATQ.out u b) _).mono ?_
            rintro e2 w' ⟨rfl, b2⟩
            exact ⟨⟨q, by rw [e]⟩, b2⟩
          have LT : Hid (∀ ks2 : List Int, Ks st2.f st2.n ks2 → ∀ i0 : Nat, i8 = i0 + 1 → Ba.nth ks2 i0 < Ba.nth ks i8) := fun ks2 k2 i0 ei => by
            have e := Wq.Ks.one KS.out k2
            subst e
            have h1 : i8 < ks2.length := by have := KL.out; omega
            rw [Ba.nth_lt ks2 i0 (by omega), Ba.nth_lt ks2 i8 h1]
            exact KS.out.lt i0 i8 _ _ (by omega) (List.getElem?_eq_getElem _) (List.getElem?_eq_getElem _)
          clear bq KM
          generalize Ba.nth ks i8 = gx at *
          go_wp2_with fail
          refine (AA.out _ BQ.out).mono ?_
          rintro e v9 ⟨⟨q9, rfl⟩, b9'⟩
          have B9 := hide (btr BQ.out b9')
          have E9 := hide (btr BQZ.out b9')
          have dq9 : decide ((q9 : Int) < 0) = false := by simp
          clear b9' BQ BQZ
          by_cases hz8 : i8 = 0
          · subst hz8
            go_wp2_with fail
            go_roundw
            case rel => exact ⟨1, by omega, by go_num, E9.out⟩
            case measure => simp [intOf]; omega
          · obtain ⟨i0, rfl⟩ : ∃ i0, i8 = i0 + 1 := ⟨i8 - 1, by omega⟩
            have dz : decide ((0 : Int) < ((i0 + 1 : Nat) : Int)) = true := by simp
            have AL9 := hide (AL.out _ B9.out)
            have L1 := hide (fun ks2 k2 => LT.out ks2 k2 i0 rfl)
            clear hz8 LT AA
            go_wp2_with fail
            refine AL9.out.mono ?_
            rintro e v10 ⟨o10, c10, ks10, rfl, hkl10, ks10', a10, b10⟩
            have E10 := hide (btr E9.out b10)
            have hi0 : (i0 : Int) < (nq : Int) := by omega
            obtain ⟨b11, f11, rfl, x11⟩ := a10 i0 (by omega)
            have hlt11 : Ba.nth ks10 i0 < gx := L1.out ks10 ks10'
            have dge : decide (gx ≤ Ba.nth ks10 i0) = false := by simp; omega
            clear a10 b10 ks10' hkl10 E9 L1
            generalize Ba.nth ks10 i0 = gy at *
            have hsub : ((i0 + 1 : Nat) : Int) - 1 = (i0 : Int) := by omega
            go_wp2_with fail
            go_roundw
            case rel => exact ⟨i0 + 1 + 1, by omega, by go_num, E10.out⟩
            case measure => simp [intOf]; omega
        · have hlt8' : ¬ ((i8 : Int) < (nq : Int)) := by omega
          have K9 := hide (KB5.out _ (btr B8.out bq))
          clear bq
          go_wp2_with fail
          go_roundw
          case rel =>
            obtain ⟨kq, st', h', qs', jq, rq, tq⟩ := K9.out
            exact ⟨k + 1, by omega, by go_num, st', h', qs', jq, rq, kq, tq⟩
          case measure => simp [intOf]; omega
    · have hlt' : ¬ ((k : Int) < (N : Int)) := by omega
      have KP := hide kp
      clear j r kp hT
      go_wp2_with fail
      refine (Wa.two_any _).mono ?_
      rintro r w3 ⟨rfl, b3⟩
      have B3 := hide (btr (Wa.Kp.lw KP.out) b3)
      clear b3
      go_wp2_with fail
      go_ret
      exact ⟨rfl, B3.out⟩

/-! ### the row -/
set_option maxRecDepth 100000 in
theorem lifted (os : Os) (started : os.Started) (H : Type) (enc : TypeId × Value → H) :
    ReturnsInHanded {} Try.checked os 3 .any (Rows.watchStepsSpec.pre6 enc Try.prog Try.f3 Rows.watchStepsRow.domain false) (Rows.watchStepsSpec.post enc Try.prog Try.f3 false true false false) := by
  refine returnsInHanded_of_change (C := Try.checked) own started (by kernel_rfl) Try.func3
    (ChangeSpec.witness6 (enc := enc) (C := Try.checked) false ⟨#[], #[.int .i64 0, .int .i64 0, .slice none 0 0], []⟩ 8 (by kernel_rfl) (by kernel_rfl) (by kernel_rfl) (by kernel_rfl)) ?_
  intro W base args ds gs before hval0 hW hcnd _
  have hval : ∀ (j : Nat) t v, Try.f3.params[j]? = some t → args[j]? = some v → Value.okWide Try.prog W .any base t v := hval0
  have hW' := hW
  obtain ⟨p, q, hA0, hV, rfl, hfz, hnd⟩ := hW
  have hA : DataW.TrodAll enc Try.prog W 0 (fun _ => true) true Try.f3.params.toList args.toList ds p := hA0
  rw [Try.params3] at hA hval
  obtain ⟨v0, vs0, d0, ds0, p0, q0, hargs, rfl, rfl, h0, r0⟩ := trodAll_cons hA
  obtain ⟨v1, vs1, d1, ds1, p1, q1, rfl, rfl, rfl, h1, r1⟩ := trodAll_cons r0
  obtain ⟨v2, vs2, d2, ds2, p2, q2, rfl, rfl, rfl, h2, r2⟩ := trodAll_cons r1
  obtain ⟨rfl, rfl, rfl⟩ := trodAll_nil r2
  obtain rfl : args = #[v0, v1, v2] := by cases args; simp_all
  obtain ⟨rfl, rfl⟩ := trodVars_none hV
  obtain ⟨a0, rfl, rfl, rfl, w0⟩ := open_int Try.underlying3 (hval 0 3 v0 rfl rfl) h0
  obtain ⟨a1, rfl, rfl, rfl, w1⟩ := open_int Try.underlying3 (hval 1 3 v1 rfl rfl) h1
  obtain ⟨oa2, n2, c2, rfl⟩ := okWide_slice Try.underlying22 (hval 2 22 v2 rfl rfl)
  have k2 := h2
  have lt2 : ∀ x ∈ p2, x.block < W.heap.size := by obtain ⟨m, hm⟩ := k2; exact DataW.trod_lt m _ _ _ hm
  obtain ⟨l2, rfl, A2, C2, M2⟩ := h2.elim fun _ hf => steps_open hf
  clear hA0 hval0
  refine (core (w := W) a0 a1 oa2 l2 c2 A2 (Nat.le_trans C2 M2)).mono fun e W' ⟨he, bel⟩ => ?_
  subst he
  exact ⟨_, rfl, _, _, _, [], _, [], hW', trodAll_mk1 (shut_bool Try.underlying4 _), (trodAll_cons_mk (shut_int Try.underlying3 w0) (trodAll_cons_mk (shut_int Try.underlying3 w1) (trodAll_cons_mk (Below.trod laidOut (by kernel_rfl) (of_decide_eq_true (by kernel_rfl)) k2 bel lt2) trodAll_mk0))), rfl, bel.frame _, fun h => by cases h⟩

theorem over : Rows.watchStepsRow.holds Try.pinned (OpenSpec.ofChange Rows.watchStepsSpec) :=
  OpenClaim.holds_of_wide 3 Try.f3 rfl rfl rfl rfl rfl rfl rfl ⟨rfl, rfl, rfl, rfl, rfl⟩ rfl rfl rfl rfl rfl (by kernel_rfl) Try.func3 (by kernel_rfl)
    (of_decide_eq_true (by kernel_rfl)) (by unfold Func.isWrapper; first | (rw [if_pos (by decide +kernel)]; kernel_rfl) | (rw [if_neg (by decide +kernel)]; exact ⟨rfl, rfl⟩))
    (fun os started H enc _ => lifted os started H enc)

/-- the statement -/
theorem proved : Rows.WatchStepsSaid := over
#print axioms proved
end Go.Proofs.Ytfimfgffbfjkeaa.watchSteps
