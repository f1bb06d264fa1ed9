/- The reference's Try, over this seat's program. -/
import Derived.Test.YtdcmlimglajpkaaJe
namespace Go.Proofs.Ytdcmlimglajpkaa
open Go.ChangeShapes Go.WideShapes Go.ChangeAt Go.RowKit
namespace Fk
open Ba Pe _root_.Go.Proofs.Ytdcmlimglajpkaa.Pi Rp

set_option maxRecDepth 100000 in
set_option maxHeartbeats 6400000 in
theorem rtry_false (ch val : Int) (oa : Option Addr) (bs : List (Option Nat)) (cp : Nat) (Fs : Nat → Nat → Prop) (sts : List (Option St)) (w : World) (h : Qs Rr w oa bs Fs sts) (hs : Sml sts) :
    Calls Try.prog 21 #[cv ⟨false, ch, val⟩, .slice oa bs.length cp] w fun r w' => r = .returned (.tuple #[gv (tryG sts ⟨false, ch, val⟩), .int .i64 (tryE sts ⟨false, ch, val⟩)]) ∧ Rz Rr w w' oa bs Fs (tryS sts ⟨false, ch, val⟩) := by
  have b1 := below_alloc w (.cells #[.bool false, .int .i64 ch, .int .i64 val] 32)
  have b2 := below_alloc (w.alloc (.cells #[.bool false, .int .i64 ch, .int .i64 val] 32)) (.cells #[.bool false, .bool false, .bool false, .int .i64 0, .int .i64 0, .int .i64 0, .int .i64 0] 64)
  have BB := hide (btr b1 b2)
  have X2 := hide (heap_below (heap_new w (.cells #[.bool false, .int .i64 ch, .int .i64 val] 32)) b2)
  have hz := heap_new (w.alloc (.cells #[.bool false, .int .i64 ch, .int .i64 val] 32)) (.cells #[.bool false, .bool false, .bool false, .int .i64 0, .int .i64 0, .int .i64 0, .int .i64 0] 64)
  rw [World.size_alloc] at hz
  have Z2 := hide hz
  have NM := hide (rnamed_any oa bs ch cp _ (h.row.below BB.out))
  have H := hide h
  have hS2 : ((w.alloc (.cells #[.bool false, .int .i64 ch, .int .i64 val] 32)).alloc (.cells #[.bool false, .bool false, .bool false, .int .i64 0, .int .i64 0, .int .i64 0, .int .i64 0] 64)).heap.size = w.heap.size + 2 := by rw [World.size_alloc, World.size_alloc]
  have NZ : Hid (∀ i, ¬ Fs i (w.heap.size + 1)) := fun i e => by have := h.bd i _ e; omega
  have RR : Hid (∀ a, oa = some a → a.block < w.heap.size ∨ bs = []) := fun a e => by
    cases hb : bs with
    | nil => exact .inr rfl
    | cons o t => exact .inl (h.rl (i := 0) (o := o) (by rw [hb]; rfl) a e)
  clear b1 b2 hz
  unfold tryG tryE tryS cv
  rcases h.nm ch with ⟨e1, e2⟩ | ⟨B, st, e1, e2, h0, hl, hi, hi2, q⟩
  · rw [e2]
    simp only
    rw [e1] at NM
    simp only [pt, Option.map_none] at NM
    clear h e1 e2
    go_enter Try.func21, Try.ntmps21
    go_wp2_with fail
    generalize (w.alloc (.cells #[.bool false, .int .i64 ch, .int .i64 val] 32)).alloc (.cells #[.bool false, .bool false, .bool false, .int .i64 0, .int .i64 0, .int .i64 0, .int .i64 0] 64) = W2 at BB X2 Z2 NM hS2 ⊢
    refine NM.out.mono ?_
    rintro r w2 ⟨rfl, rfl⟩
    have x0 : w2.cell? ⟨w.heap.size, 0, none⟩ = some (.bool false) := cell_of X2.out 0
    have x2 : w2.cell? ⟨w.heap.size, 2, none⟩ = some (.int .i64 val) := cell_of X2.out 2
    have z0 : w2.cell? ⟨w.heap.size + 1, 0, none⟩ = some (.bool false) := cell_of Z2.out 0
    have zf0 := frozen_of Z2.out 0
    have z1 : w2.cell? ⟨w.heap.size + 1, 1, none⟩ = some (.bool false) := cell_of Z2.out 1
    have zf1 := frozen_of Z2.out 1
    have z2 : w2.cell? ⟨w.heap.size + 1, 2, none⟩ = some (.bool false) := cell_of Z2.out 2
    have zf2 := frozen_of Z2.out 2
    have z3 : w2.cell? ⟨w.heap.size + 1, 3, none⟩ = some (.int .i64 0) := cell_of Z2.out 3
    have zf3 := frozen_of Z2.out 3
    have z4 : w2.cell? ⟨w.heap.size + 1, 4, none⟩ = some (.int .i64 0) := cell_of Z2.out 4
    have zf4 := frozen_of Z2.out 4
    have z5 : w2.cell? ⟨w.heap.size + 1, 5, none⟩ = some (.int .i64 0) := cell_of Z2.out 5
    have zf5 := frozen_of Z2.out 5
    have z6 : w2.cell? ⟨w.heap.size + 1, 6, none⟩ = some (.int .i64 0) := cell_of Z2.out 6
    have zf6 := frozen_of Z2.out 6
    go_wp2_with fail
    exact bodyPost_ret (results_row2 Try.results21 _ _ _ _ _ rfl rfl (loadVar_rgot (got_set Z2.out _ _ _ _ _ _ _) rfl)) rfl ⟨rfl, Rz.set7 frR ⟨Fs, NwA.refl _ _, H.out.below frR BB.out, KF.of BB.out, NZ.out⟩ (Nat.le_succ _) RR.out _ _ _ _ _ _ _⟩
  · rw [e2]
    simp only [Bool.false_eq_true, if_false]
    rw [e1] at NM
    simp only [pt, Option.map_some] at NM
    have hb1 := (hs _ _ hi2).1
    have hb2 := (hs _ _ hi2).2
    have HI := hide hi
    have P2 := hide (q.below BB.out)
    clear h e1 e2 q hi hi2 h0 hl
    have CL := hide (rrecv_any B _ st _ P2.out hb1 hb2)
    generalize recvG st = gg at CL ⊢
    skip
    obtain ⟨rd, ok, wk, v, ⟨mg, mc, mv⟩⟩ := gg
    unfold gv at CL ⊢
    go_enter Try.func21, Try.ntmps21
    go_wp2_with fail
    generalize (w.alloc (.cells #[.bool false, .int .i64 ch, .int .i64 val] 32)).alloc (.cells #[.bool false, .bool false, .bool false, .int .i64 0, .int .i64 0, .int .i64 0, .int .i64 0] 64) = W2 at BB X2 Z2 NM hS2 P2 CL ⊢
    refine NM.out.mono ?_
    rintro r w2 ⟨rfl, rfl⟩
    have x0 : w2.cell? ⟨w.heap.size, 0, none⟩ = some (.bool false) := cell_of X2.out 0
    have x2 : w2.cell? ⟨w.heap.size, 2, none⟩ = some (.int .i64 val) := cell_of X2.out 2
    go_wp2_with fail
    refine CL.out.mono ?_
    rintro r w3 ⟨rfl, k3, F3, n3, p3⟩
    have Z3 := hide (k3.heap Z2.out (NZ.out _))
    have R3 := hide (Rz.step frR H.out BB.out HI.out k3 n3 p3)
    have NZ3 : Hid (∃ Fs', NwA Fs' Fs w ∧ Qs Rr w3 oa bs Fs' (sts.set ch.toNat (some (recvS st))) ∧ KF (All Fs) w w3 ∧ ∀ i, ¬ Fs' i (w.heap.size + 1)) := by
      have ha := H.out.below frR BB.out
      refine ⟨up Fs ch.toNat F3, ?_, ha.step frR HI.out k3 n3 p3 (ha.rl HI.out), (KF.of (F := All Fs) BB.out).trans k3 (fun x hx => .inl ⟨_, hx⟩), ?_⟩
      · intro j x hx
        by_cases e : j = ch.toNat
        · subst e
          rw [up_same] at hx
          rcases n3 x hx with z | z
          · exact .inl ⟨_, z⟩
          · exact .inr (by omega)
        · rw [up_other _ _ _ _ e] at hx
          exact .inl ⟨j, hx⟩
      · intro j hx
        by_cases e : j = ch.toNat
        · subst e
          rw [up_same] at hx
          rcases n3 _ hx with z | z
          · exact NZ.out _ z
          · omega
        · rw [up_other _ _ _ _ e] at hx
          exact NZ.out _ hx
    clear k3 n3 p3 R3
    have z0 : w3.cell? ⟨w.heap.size + 1, 0, none⟩ = some (.bool false) := cell_of Z3.out 0
    have zf0 := frozen_of Z3.out 0
    have z1 : w3.cell? ⟨w.heap.size + 1, 1, none⟩ = some (.bool false) := cell_of Z3.out 1
    have zf1 := frozen_of Z3.out 1
    have z2 : w3.cell? ⟨w.heap.size + 1, 2, none⟩ = some (.bool false) := cell_of Z3.out 2
    have zf2 := frozen_of Z3.out 2
    have z3 : w3.cell? ⟨w.heap.size + 1, 3, none⟩ = some (.int .i64 0) := cell_of Z3.out 3
    have zf3 := frozen_of Z3.out 3
    have z4 : w3.cell? ⟨w.heap.size + 1, 4, none⟩ = some (.int .i64 0) := cell_of Z3.out 4
    have zf4 := frozen_of Z3.out 4
    have z5 : w3.cell? ⟨w.heap.size + 1, 5, none⟩ = some (.int .i64 0) := cell_of Z3.out 5
    have zf5 := frozen_of Z3.out 5
    have z6 : w3.cell? ⟨w.heap.size + 1, 6, none⟩ = some (.int .i64 0) := cell_of Z3.out 6
    have zf6 := frozen_of Z3.out 6
    go_wp2_with fail
    exact bodyPost_ret (results_row2 Try.results21 _ _ _ _ _ rfl rfl (loadVar_rgot (got_set Z3.out _ _ _ _ _ _ _) rfl)) rfl ⟨rfl, Rz.set7 frR NZ3.out (Nat.le_succ _) RR.out _ _ _ _ _ _ _⟩
set_option maxRecDepth 100000 in
set_option maxHeartbeats 6400000 in
theorem rtry_true (ch val : Int) (oa : Option Addr) (bs : List (Option Nat)) (cp : Nat) (Fs : Nat → Nat → Prop) (sts : List (Option St)) (w : World) (h : Qs Rr w oa bs Fs sts) (hs : Sml sts) :
    Calls Try.prog 21 #[cv ⟨true, ch, val⟩, .slice oa bs.length cp] w fun r w' => r = .returned (.tuple #[gv (tryG sts ⟨true, ch, val⟩), .int .i64 (tryE sts ⟨true, ch, val⟩)]) ∧ Rz Rr w w' oa bs Fs (tryS sts ⟨true, ch, val⟩) := by
  have b1 := below_alloc w (.cells #[.bool true, .int .i64 ch, .int .i64 val] 32)
  have b2 := below_alloc (w.alloc (.cells #[.bool true, .int .i64 ch, .int .i64 val] 32)) (.cells #[.bool false, .bool false, .bool false, .int .i64 0, .int .i64 0, .int .i64 0, .int .i64 0] 64)
  have BB := hide (btr b1 b2)
  have X2 := hide (heap_below (heap_new w (.cells #[.bool true, .int .i64 ch, .int .i64 val] 32)) b2)
  have hz := heap_new (w.alloc (.cells #[.bool true, .int .i64 ch, .int .i64 val] 32)) (.cells #[.bool false, .bool false, .bool false, .int .i64 0, .int .i64 0, .int .i64 0, .int .i64 0] 64)
  rw [World.size_alloc] at hz
  have Z2 := hide hz
  have NM := hide (rnamed_any oa bs ch cp _ (h.row.below BB.out))
  have H := hide h
  have hS2 : ((w.alloc (.cells #[.bool true, .int .i64 ch, .int .i64 val] 32)).alloc (.cells #[.bool false, .bool false, .bool false, .int .i64 0, .int .i64 0, .int .i64 0, .int .i64 0] 64)).heap.size = w.heap.size + 2 := by rw [World.size_alloc, World.size_alloc]
  have NZ : Hid (∀ i, ¬ Fs i (w.heap.size + 1)) := fun i e => by have := h.bd i _ e; omega
  have RR : Hid (∀ a, oa = some a → a.block < w.heap.size ∨ bs = []) := fun a e => by
    cases hb : bs with
    | nil => exact .inr rfl
    | cons o t => exact .inl (h.rl (i := 0) (o := o) (by rw [hb]; rfl) a e)
  clear b1 b2 hz
  unfold tryG tryE tryS cv
  rcases h.nm ch with ⟨e1, e2⟩ | ⟨B, st, e1, e2, h0, hl, hi, hi2, q⟩
  · rw [e2]
    simp only
    rw [e1] at NM
    simp only [pt, Option.map_none] at NM
    clear h e1 e2
    go_enter Try.func21, Try.ntmps21
    go_wp2_with fail
    generalize (w.alloc (.cells #[.bool true, .int .i64 ch, .int .i64 val] 32)).alloc (.cells #[.bool false, .bool false, .bool false, .int .i64 0, .int .i64 0, .int .i64 0, .int .i64 0] 64) = W2 at BB X2 Z2 NM hS2 ⊢
    refine NM.out.mono ?_
    rintro r w2 ⟨rfl, rfl⟩
    have x0 : w2.cell? ⟨w.heap.size, 0, none⟩ = some (.bool true) := cell_of X2.out 0
    have x2 : w2.cell? ⟨w.heap.size, 2, none⟩ = some (.int .i64 val) := cell_of X2.out 2
    have z0 : w2.cell? ⟨w.heap.size + 1, 0, none⟩ = some (.bool false) := cell_of Z2.out 0
    have zf0 := frozen_of Z2.out 0
    have z1 : w2.cell? ⟨w.heap.size + 1, 1, none⟩ = some (.bool false) := cell_of Z2.out 1
    have zf1 := frozen_of Z2.out 1
    have z2 : w2.cell? ⟨w.heap.size + 1, 2, none⟩ = some (.bool false) := cell_of Z2.out 2
    have zf2 := frozen_of Z2.out 2
    have z3 : w2.cell? ⟨w.heap.size + 1, 3, none⟩ = some (.int .i64 0) := cell_of Z2.out 3
    have zf3 := frozen_of Z2.out 3
    have z4 : w2.cell? ⟨w.heap.size + 1, 4, none⟩ = some (.int .i64 0) := cell_of Z2.out 4
    have zf4 := frozen_of Z2.out 4
    have z5 : w2.cell? ⟨w.heap.size + 1, 5, none⟩ = some (.int .i64 0) := cell_of Z2.out 5
    have zf5 := frozen_of Z2.out 5
    have z6 : w2.cell? ⟨w.heap.size + 1, 6, none⟩ = some (.int .i64 0) := cell_of Z2.out 6
    have zf6 := frozen_of Z2.out 6
    go_wp2_with fail
    exact bodyPost_ret (results_row2 Try.results21 _ _ _ _ _ rfl rfl (loadVar_rgot (got_set Z2.out _ _ _ _ _ _ _) rfl)) rfl ⟨rfl, Rz.set7 frR ⟨Fs, NwA.refl _ _, H.out.below frR BB.out, KF.of BB.out, NZ.out⟩ (Nat.le_succ _) RR.out _ _ _ _ _ _ _⟩
  · rw [e2]
    simp only [if_true]
    rw [e1] at NM
    simp only [pt, Option.map_some] at NM
    have hb1 := (hs _ _ hi2).1
    have hb2 := (hs _ _ hi2).2
    have HI := hide hi
    have P2 := hide (q.below BB.out)
    clear h e1 e2 q hi hi2 h0 hl
    have CL := hide (rsend_any B _ st val _ P2.out hb1 hb2)
    generalize sendG st = gg at CL ⊢
    generalize sendE st = ee at CL ⊢
    obtain ⟨rd, ok, wk, v, ⟨mg, mc, mv⟩⟩ := gg
    unfold gv at CL ⊢
    go_enter Try.func21, Try.ntmps21
    go_wp2_with fail
    generalize (w.alloc (.cells #[.bool true, .int .i64 ch, .int .i64 val] 32)).alloc (.cells #[.bool false, .bool false, .bool false, .int .i64 0, .int .i64 0, .int .i64 0, .int .i64 0] 64) = W2 at BB X2 Z2 NM hS2 P2 CL ⊢
    refine NM.out.mono ?_
    rintro r w2 ⟨rfl, rfl⟩
    have x0 : w2.cell? ⟨w.heap.size, 0, none⟩ = some (.bool true) := cell_of X2.out 0
    have x2 : w2.cell? ⟨w.heap.size, 2, none⟩ = some (.int .i64 val) := cell_of X2.out 2
    go_wp2_with fail
    refine CL.out.mono ?_
    rintro r w3 ⟨rfl, k3, F3, n3, p3⟩
    have Z3 := hide (k3.heap Z2.out (NZ.out _))
    have R3 := hide (Rz.step frR H.out BB.out HI.out k3 n3 p3)
    have NZ3 : Hid (∃ Fs', NwA Fs' Fs w ∧ Qs Rr w3 oa bs Fs' (sts.set ch.toNat (some (sendS st val))) ∧ KF (All Fs) w w3 ∧ ∀ i, ¬ Fs' i (w.heap.size + 1)) := by
      have ha := H.out.below frR BB.out
      refine ⟨up Fs ch.toNat F3, ?_, ha.step frR HI.out k3 n3 p3 (ha.rl HI.out), (KF.of (F := All Fs) BB.out).trans k3 (fun x hx => .inl ⟨_, hx⟩), ?_⟩
      · intro j x hx
        by_cases e : j = ch.toNat
        · subst e
          rw [up_same] at hx
          rcases n3 x hx with z | z
          · exact .inl ⟨_, z⟩
          · exact .inr (by omega)
        · rw [up_other _ _ _ _ e] at hx
          exact .inl ⟨j, hx⟩
      · intro j hx
        by_cases e : j = ch.toNat
        · subst e
          rw [up_same] at hx
          rcases n3 _ hx with z | z
          · exact NZ.out _ z
          · omega
        · rw [up_other _ _ _ _ e] at hx
          exact NZ.out _ hx
    clear k3 n3 p3 R3
    have z0 : w3.cell? ⟨w.heap.size + 1, 0, none⟩ = some (.bool false) := cell_of Z3.out 0
    have zf0 := frozen_of Z3.out 0
    have z1 : w3.cell? ⟨w.heap.size + 1, 1, none⟩ = some (.bool false) := cell_of Z3.out 1
    have zf1 := frozen_of Z3.out 1
    have z2 : w3.cell? ⟨w.heap.size + 1, 2, none⟩ = some (.bool false) := cell_of Z3.out 2
    have zf2 := frozen_of Z3.out 2
    have z3 : w3.cell? ⟨w.heap.size + 1, 3, none⟩ = some (.int .i64 0) := cell_of Z3.out 3
    have zf3 := frozen_of Z3.out 3
    have z4 : w3.cell? ⟨w.heap.size + 1, 4, none⟩ = some (.int .i64 0) := cell_of Z3.out 4
    have zf4 := frozen_of Z3.out 4
    have z5 : w3.cell? ⟨w.heap.size + 1, 5, none⟩ = some (.int .i64 0) := cell_of Z3.out 5
    have zf5 := frozen_of Z3.out 5
    have z6 : w3.cell? ⟨w.heap.size + 1, 6, none⟩ = some (.int .i64 0) := cell_of Z3.out 6
    have zf6 := frozen_of Z3.out 6
    go_wp2_with fail
    exact bodyPost_ret (results_row2 Try.results21 _ _ _ _ _ rfl rfl (loadVar_rgot (got_set Z3.out _ _ _ _ _ _ _) rfl)) rfl ⟨rfl, Rz.set7 frR NZ3.out (Nat.le_succ _) RR.out _ _ _ _ _ _ _⟩
theorem rtry_any (c : Ca) (oa : Option Addr) (bs : List (Option Nat)) (cp : Nat) (Fs : Nat → Nat → Prop) (sts : List (Option St)) (w : World) (h : Qs Rr w oa bs Fs sts) (hs : Sml sts) :
    Calls Try.prog 21 #[cv c, .slice oa bs.length cp] w fun r w' => r = .returned (.tuple #[gv (tryG sts c), .int .i64 (tryE sts c)]) ∧ Rz Rr w w' oa bs Fs (tryS sts c) := by
  obtain ⟨sd, ch, val⟩ := c
  cases sd
  · exact rtry_false ch val oa bs cp Fs sts w h hs
  · exact rtry_true ch val oa bs cp Fs sts w h hs
end Fk
end Go.Proofs.Ytdcmlimglajpkaa
