import Derived.Test.YtipimagajnocjaaZjFork6
/- Package fork: Try, over this seat's program. -/
namespace Go.Proofs.Ytipimagajnocjaa
open Go.ChangeShapes Go.WideShapes Go.ChangeAt Go.RowKit
namespace Fk
open Ba Pe _root_.Go.Proofs.Ytipimagajnocjaa.Pi Rp

set_option maxRecDepth 100000 in
set_option maxHeartbeats 6400000 in
theorem ftry_false (ch val : Int) (oa : Option Addr) (bs : List (Option Nat)) (cp : Nat) (Fs : Nat → Nat → Prop) (sts : List (Option St)) (w : World) (h : Qs Pp w oa bs Fs sts) (hs : Sml sts) :
    Calls Try.prog 17 #[cv ⟨false, ch, val⟩, .slice oa bs.length cp] w fun r w' => r = .returned (.tuple #[gv (tryG sts ⟨false, ch, val⟩), .int .i64 (tryE sts ⟨false, ch, val⟩)]) ∧ Rz Pp w w' oa bs Fs (tryS sts ⟨false, ch, val⟩) := by
  have b1 := below_alloc w (.cells #[.bool false, .int .i64 ch, .int .i64 val] 32)
  have b2 := below_alloc (w.alloc (.cells #[.bool false, .int .i64 ch, .int .i64 val] 32)) (.cells #[.bool false, .bool false, .bool false, .int .i64 0, .int .i64 0, .int .i64 0, .int .i64 0] 51)
  have BB := hide (btr b1 b2)
  have X2 := hide (heap_below (heap_new w (.cells #[.bool false, .int .i64 ch, .int .i64 val] 32)) b2)
  have hz := heap_new (w.alloc (.cells #[.bool false, .int .i64 ch, .int .i64 val] 32)) (.cells #[.bool false, .bool false, .bool false, .int .i64 0, .int .i64 0, .int .i64 0, .int .i64 0] 51)
  rw [World.size_alloc] at hz
  have Z2 := hide hz
  have NM := hide (named_any oa bs ch cp _ (h.row.below BB.out))
  have H := hide h
  have hS2 : ((w.alloc (.cells #[.bool false, .int .i64 ch, .int .i64 val] 32)).alloc (.cells #[.bool false, .bool false, .bool false, .int .i64 0, .int .i64 0, .int .i64 0, .int .i64 0] 51)).heap.size = w.heap.size + 2 := by rw [World.size_alloc, World.size_alloc]
  have NZ : Hid (∀ i, ¬ Fs i (w.heap.size + 1)) := fun i e => by have := h.bd i _ e; omega
  have RR : Hid (∀ a, oa = some a → a.block < w.heap.size ∨ bs = []) := fun a e => by
    cases hb : bs with
    | nil => exact .inr rfl
    | cons o t => exact .inl (h.rl (i := 0) (o := o) (by rw [hb]; rfl) a e)
  clear b1 b2 hz
  unfold tryG tryE tryS cv
  rcases h.nm ch with ⟨e1, e2⟩ | ⟨B, st, e1, e2, h0, hl, hi, hi2, q⟩
  · rw [e2]
    simp only
    rw [e1] at NM
    simp only [pt, Option.map_none] at NM
    clear h e1 e2
    go_enter Try.func17, Try.ntmps17
    go_wp2_with fail
    generalize (w.alloc (.cells #[.bool false, .int .i64 ch, .int .i64 val] 32)).alloc (.cells #[.bool false, .bool false, .bool false, .int .i64 0, .int .i64 0, .int .i64 0, .int .i64 0] 51) = W2 at BB X2 Z2 NM hS2 ⊢
    refine NM.out.mono ?_
    rintro r w2 ⟨rfl, rfl⟩
    have x0 : w2.cell? ⟨w.heap.size, 0, none⟩ = some (.bool false) := cell_of X2.out 0
    have x2 : w2.cell? ⟨w.heap.size, 2, none⟩ = some (.int .i64 val) := cell_of X2.out 2
    go_wp2_with fail
    refine (recv_nil _).mono ?_
    rintro r w3 ⟨rfl, b3⟩
    have Z3 := hide (heap_below Z2.out b3)
    have B3 := hide (btr BB.out b3)
    clear b3
    have z0 : w3.cell? ⟨w.heap.size + 1, 0, none⟩ = some (.bool false) := cell_of Z3.out 0
    have zf0 := frozen_of Z3.out 0
    have z1 : w3.cell? ⟨w.heap.size + 1, 1, none⟩ = some (.bool false) := cell_of Z3.out 1
    have zf1 := frozen_of Z3.out 1
    have z2 : w3.cell? ⟨w.heap.size + 1, 2, none⟩ = some (.bool false) := cell_of Z3.out 2
    have zf2 := frozen_of Z3.out 2
    have z3 : w3.cell? ⟨w.heap.size + 1, 3, none⟩ = some (.int .i64 0) := cell_of Z3.out 3
    have zf3 := frozen_of Z3.out 3
    have z4 : w3.cell? ⟨w.heap.size + 1, 4, none⟩ = some (.int .i64 0) := cell_of Z3.out 4
    have zf4 := frozen_of Z3.out 4
    have z5 : w3.cell? ⟨w.heap.size + 1, 5, none⟩ = some (.int .i64 0) := cell_of Z3.out 5
    have zf5 := frozen_of Z3.out 5
    have z6 : w3.cell? ⟨w.heap.size + 1, 6, none⟩ = some (.int .i64 0) := cell_of Z3.out 6
    have zf6 := frozen_of Z3.out 6
    unfold gv gz
    go_wp2_with fail
    exact bodyPost_ret (results_row2 Try.results17 _ _ _ _ _ rfl rfl (loadVar_got (got_set Z3.out _ _ _ _ _ _ _) rfl)) rfl ⟨rfl, Rz.set7 frP ⟨Fs, NwA.refl _ _, H.out.below frP B3.out, KF.of B3.out, NZ.out⟩ (Nat.le_succ _) RR.out _ _ _ _ _ _ _⟩
  · rw [e2]
    simp only [Bool.false_eq_true, if_false]
    rw [e1] at NM
    simp only [pt, Option.map_some] at NM
    have hb1 := (hs _ _ hi2).1
    have hb2 := (hs _ _ hi2).2
    have HI := hide hi
    have P2 := hide (q.below BB.out)
    clear h e1 e2 q hi hi2 h0 hl
    have CL := hide (recv_any B _ st _ P2.out hb1 hb2)
    generalize recvG st = gg at CL ⊢
    skip
    obtain ⟨rd, ok, wk, v, ⟨mg, mc, mv⟩⟩ := gg
    unfold gv at CL ⊢
    go_enter Try.func17, Try.ntmps17
    go_wp2_with fail
    generalize (w.alloc (.cells #[.bool false, .int .i64 ch, .int .i64 val] 32)).alloc (.cells #[.bool false, .bool false, .bool false, .int .i64 0, .int .i64 0, .int .i64 0, .int .i64 0] 51) = W2 at BB X2 Z2 NM hS2 P2 CL ⊢
    refine NM.out.mono ?_
    rintro r w2 ⟨rfl, rfl⟩
    have x0 : w2.cell? ⟨w.heap.size, 0, none⟩ = some (.bool false) := cell_of X2.out 0
    have x2 : w2.cell? ⟨w.heap.size, 2, none⟩ = some (.int .i64 val) := cell_of X2.out 2
    go_wp2_with fail
    refine CL.out.mono ?_
    rintro r w3 ⟨rfl, k3, F3, n3, p3⟩
    have Z3 := hide (k3.heap Z2.out (NZ.out _))
    have R3 := hide (Rz.step frP H.out BB.out HI.out k3 n3 p3)
    have NZ3 : Hid (∃ Fs', NwA Fs' Fs w ∧ Qs Pp w3 oa bs Fs' (sts.set ch.toNat (some (recvS st))) ∧ KF (All Fs) w w3 ∧ ∀ i, ¬ Fs' i (w.heap.size + 1)) := by
      have ha := H.out.below frP BB.out
      refine ⟨up Fs ch.toNat F3, ?_, ha.step frP HI.out k3 n3 p3 (ha.rl HI.out), (KF.of (F := All Fs) BB.out).trans k3 (fun x hx => .inl ⟨_, hx⟩), ?_⟩
      · intro j x hx
        by_cases e : j = ch.toNat
        · subst e
          rw [up_same] at hx
          rcases n3 x hx with z | z
          · exact .inl ⟨_, z⟩
          · exact .inr (by omega)
        · rw [up_other _ _ _ _ e] at hx
          exact .inl ⟨j, hx⟩
      · intro j hx
        by_cases e : j = ch.toNat
        · subst e
          rw [up_same] at hx
          rcases n3 _ hx with z | z
          · exact NZ.out _ z
          · omega
        · rw [up_other _ _ _ _ e] at hx
          exact NZ.out _ hx
    clear k3 n3 p3 R3
    have z0 : w3.cell? ⟨w.heap.size + 1, 0, none⟩ = some (.bool false) := cell_of Z3.out 0
    have zf0 := frozen_of Z3.out 0
    have z1 : w3.cell? ⟨w.heap.size + 1, 1, none⟩ = some (.bool false) := cell_of Z3.out 1
    have zf1 := frozen_of Z3.out 1
    have z2 : w3.cell? ⟨w.heap.size + 1, 2, none⟩ = some (.bool false) := cell_of Z3.out 2
    have zf2 := frozen_of Z3.out 2
    have z3 : w3.cell? ⟨w.heap.size + 1, 3, none⟩ = some (.int .i64 0) := cell_of Z3.out 3
    have zf3 := frozen_of Z3.out 3
    have z4 : w3.cell? ⟨w.heap.size + 1, 4, none⟩ = some (.int .i64 0) := cell_of Z3.out 4
    have zf4 := frozen_of Z3.out 4
    have z5 : w3.cell? ⟨w.heap.size + 1, 5, none⟩ = some (.int .i64 0) := cell_of Z3.out 5
    have zf5 := frozen_of Z3.out 5
    have z6 : w3.cell? ⟨w.heap.size + 1, 6, none⟩ = some (.int .i64 0) := cell_of Z3.out 6
    have zf6 := frozen_of Z3.out 6
    go_wp2_with fail
    exact bodyPost_ret (results_row2 Try.results17 _ _ _ _ _ rfl rfl (loadVar_got (got_set Z3.out _ _ _ _ _ _ _) rfl)) rfl ⟨rfl, Rz.set7 frP NZ3.out (Nat.le_succ _) RR.out _ _ _ _ _ _ _⟩
set_option maxRecDepth 100000 in
set_option maxHeartbeats 6400000 in
theorem ftry_true (ch val : Int) (oa : Option Addr) (bs : List (Option Nat)) (cp : Nat) (Fs : Nat → Nat → Prop) (sts : List (Option St)) (w : World) (h : Qs Pp w oa bs Fs sts) (hs : Sml sts) :
    Calls Try.prog 17 #[cv ⟨true, ch, val⟩, .slice oa bs.length cp] w fun r w' => r = .returned (.tuple #[gv (tryG sts ⟨true, ch, val⟩), .int .i64 (tryE sts ⟨true, ch, val⟩)]) ∧ Rz Pp w w' oa bs Fs (tryS sts ⟨true, ch, val⟩) := by
  have b1 := below_alloc w (.cells #[.bool true, .int .i64 ch, .int .i64 val] 32)
  have b2 := below_alloc (w.alloc (.cells #[.bool true, .int .i64 ch, .int .i64 val] 32)) (.cells #[.bool false, .bool false, .bool false, .int .i64 0, .int .i64 0, .int .i64 0, .int .i64 0] 51)
  have BB := hide (btr b1 b2)
  have X2 := hide (heap_below (heap_new w (.cells #[.bool true, .int .i64 ch, .int .i64 val] 32)) b2)
  have hz := heap_new (w.alloc (.cells #[.bool true, .int .i64 ch, .int .i64 val] 32)) (.cells #[.bool false, .bool false, .bool false, .int .i64 0, .int .i64 0, .int .i64 0, .int .i64 0] 51)
  rw [World.size_alloc] at hz
  have Z2 := hide hz
  have NM := hide (named_any oa bs ch cp _ (h.row.below BB.out))
  have H := hide h
  have hS2 : ((w.alloc (.cells #[.bool true, .int .i64 ch, .int .i64 val] 32)).alloc (.cells #[.bool false, .bool false, .bool false, .int .i64 0, .int .i64 0, .int .i64 0, .int .i64 0] 51)).heap.size = w.heap.size + 2 := by rw [World.size_alloc, World.size_alloc]
  have NZ : Hid (∀ i, ¬ Fs i (w.heap.size + 1)) := fun i e => by have := h.bd i _ e; omega
  have RR : Hid (∀ a, oa = some a → a.block < w.heap.size ∨ bs = []) := fun a e => by
    cases hb : bs with
    | nil => exact .inr rfl
    | cons o t => exact .inl (h.rl (i := 0) (o := o) (by rw [hb]; rfl) a e)
  clear b1 b2 hz
  unfold tryG tryE tryS cv
  rcases h.nm ch with ⟨e1, e2⟩ | ⟨B, st, e1, e2, h0, hl, hi, hi2, q⟩
  · rw [e2]
    simp only
    rw [e1] at NM
    simp only [pt, Option.map_none] at NM
    clear h e1 e2
    go_enter Try.func17, Try.ntmps17
    go_wp2_with fail
    generalize (w.alloc (.cells #[.bool true, .int .i64 ch, .int .i64 val] 32)).alloc (.cells #[.bool false, .bool false, .bool false, .int .i64 0, .int .i64 0, .int .i64 0, .int .i64 0] 51) = W2 at BB X2 Z2 NM hS2 ⊢
    refine NM.out.mono ?_
    rintro r w2 ⟨rfl, rfl⟩
    have x0 : w2.cell? ⟨w.heap.size, 0, none⟩ = some (.bool true) := cell_of X2.out 0
    have x2 : w2.cell? ⟨w.heap.size, 2, none⟩ = some (.int .i64 val) := cell_of X2.out 2
    go_wp2_with fail
    refine (send_nil val _).mono ?_
    rintro r w3 ⟨rfl, b3⟩
    have Z3 := hide (heap_below Z2.out b3)
    have B3 := hide (btr BB.out b3)
    clear b3
    have z0 : w3.cell? ⟨w.heap.size + 1, 0, none⟩ = some (.bool false) := cell_of Z3.out 0
    have zf0 := frozen_of Z3.out 0
    have z1 : w3.cell? ⟨w.heap.size + 1, 1, none⟩ = some (.bool false) := cell_of Z3.out 1
    have zf1 := frozen_of Z3.out 1
    have z2 : w3.cell? ⟨w.heap.size + 1, 2, none⟩ = some (.bool false) := cell_of Z3.out 2
    have zf2 := frozen_of Z3.out 2
    have z3 : w3.cell? ⟨w.heap.size + 1, 3, none⟩ = some (.int .i64 0) := cell_of Z3.out 3
    have zf3 := frozen_of Z3.out 3
    have z4 : w3.cell? ⟨w.heap.size + 1, 4, none⟩ = some (.int .i64 0) := cell_of Z3.out 4
    have zf4 := frozen_of Z3.out 4
    have z5 : w3.cell? ⟨w.heap.size + 1, 5, none⟩ = some (.int .i64 0) := cell_of Z3.out 5
    have zf5 := frozen_of Z3.out 5
    have z6 : w3.cell? ⟨w.heap.size + 1, 6, none⟩ = some (.int .i64 0) := cell_of Z3.out 6
    have zf6 := frozen_of Z3.out 6
    unfold gv gz
    go_wp2_with fail
    exact bodyPost_ret (results_row2 Try.results17 _ _ _ _ _ rfl rfl (loadVar_got (got_set Z3.out _ _ _ _ _ _ _) rfl)) rfl ⟨rfl, Rz.set7 frP ⟨Fs, NwA.refl _ _, H.out.below frP B3.out, KF.of B3.out, NZ.out⟩ (Nat.le_succ _) RR.out _ _ _ _ _ _ _⟩
  · rw [e2]
    simp only [if_true]
    rw [e1] at NM
    simp only [pt, Option.map_some] at NM
    have hb1 := (hs _ _ hi2).1
    have hb2 := (hs _ _ hi2).2
    have HI := hide hi
    have P2 := hide (q.below BB.out)
    clear h e1 e2 q hi hi2 h0 hl
    have CL := hide (send_any B _ st val _ P2.out hb1 hb2)
    generalize sendG st = gg at CL ⊢
    generalize sendE st = ee at CL ⊢
    obtain ⟨rd, ok, wk, v, ⟨mg, mc, mv⟩⟩ := gg
    unfold gv at CL ⊢
    go_enter Try.func17, Try.ntmps17
    go_wp2_with fail
    generalize (w.alloc (.cells #[.bool true, .int .i64 ch, .int .i64 val] 32)).alloc (.cells #[.bool false, .bool false, .bool false, .int .i64 0, .int .i64 0, .int .i64 0, .int .i64 0] 51) = W2 at BB X2 Z2 NM hS2 P2 CL ⊢
    refine NM.out.mono ?_
    rintro r w2 ⟨rfl, rfl⟩
    have x0 : w2.cell? ⟨w.heap.size, 0, none⟩ = some (.bool true) := cell_of X2.out 0
    have x2 : w2.cell? ⟨w.heap.size, 2, none⟩ = some (.int .i64 val) := cell_of X2.out 2
    go_wp2_with fail
    refine CL.out.mono ?_
    rintro r w3 ⟨rfl, k3, F3, n3, p3⟩
    have Z3 := hide (k3.heap Z2.out (NZ.out _))
    have R3 := hide (Rz.step frP H.out BB.out HI.out k3 n3 p3)
    have NZ3 : Hid (∃ Fs', NwA Fs' Fs w ∧ Qs Pp w3 oa bs Fs' (sts.set ch.toNat (some (sendS st val))) ∧ KF (All Fs) w w3 ∧ ∀ i, ¬ Fs' i (w.heap.size + 1)) := by
      have ha := H.out.below frP BB.out
      refine ⟨up Fs ch.toNat F3, ?_, ha.step frP HI.out k3 n3 p3 (ha.rl HI.out), (KF.of (F := All Fs) BB.out).trans k3 (fun x hx => .inl ⟨_, hx⟩), ?_⟩
      · intro j x hx
        by_cases e : j = ch.toNat
        · subst e
          rw [up_same] at hx
          rcases n3 x hx with z | z
          · exact .inl ⟨_, z⟩
          · exact .inr (by omega)
        · rw [up_other _ _ _ _ e] at hx
          exact .inl ⟨j, hx⟩
      · intro j hx
        by_cases e : j = ch.toNat
        · subst e
          rw [up_same] at hx
          rcases n3 _ hx with z | z
          · exact NZ.out _ z
          · omega
        · rw [up_other _ _ _ _ e] at hx
          exact NZ.out _ hx
    clear k3 n3 p3 R3
    have z0 : w3.cell? ⟨w.heap.size + 1, 0, none⟩ = some (.bool false) := cell_of Z3.out 0
    have zf0 := frozen_of Z3.out 0
    have z1 : w3.cell? ⟨w.heap.size + 1, 1, none⟩ = some (.bool false) := cell_of Z3.out 1
    have zf1 := frozen_of Z3.out 1
    have z2 : w3.cell? ⟨w.heap.size + 1, 2, none⟩ = some (.bool false) := cell_of Z3.out 2
    have zf2 := frozen_of Z3.out 2
    have z3 : w3.cell? ⟨w.heap.size + 1, 3, none⟩ = some (.int .i64 0) := cell_of Z3.out 3
    have zf3 := frozen_of Z3.out 3
    have z4 : w3.cell? ⟨w.heap.size + 1, 4, none⟩ = some (.int .i64 0) := cell_of Z3.out 4
    have zf4 := frozen_of Z3.out 4
    have z5 : w3.cell? ⟨w.heap.size + 1, 5, none⟩ = some (.int .i64 0) := cell_of Z3.out 5
    have zf5 := frozen_of Z3.out 5
    have z6 : w3.cell? ⟨w.heap.size + 1, 6, none⟩ = some (.int .i64 0) := cell_of Z3.out 6
    have zf6 := frozen_of Z3.out 6
    go_wp2_with fail
    exact bodyPost_ret (results_row2 Try.results17 _ _ _ _ _ rfl rfl (loadVar_got (got_set Z3.out _ _ _ _ _ _ _) rfl)) rfl ⟨rfl, Rz.set7 frP NZ3.out (Nat.le_succ _) RR.out _ _ _ _ _ _ _⟩
theorem ftry_any (c : Ca) (oa : Option Addr) (bs : List (Option Nat)) (cp : Nat) (Fs : Nat → Nat → Prop) (sts : List (Option St)) (w : World) (h : Qs Pp w oa bs Fs sts) (hs : Sml sts) :
    Calls Try.prog 17 #[cv c, .slice oa bs.length cp] w fun r w' => r = .returned (.tuple #[gv (tryG sts c), .int .i64 (tryE sts c)]) ∧ Rz Pp w w' oa bs Fs (tryS sts c) := by
  obtain ⟨sd, ch, val⟩ := c
  cases sd
  · exact ftry_false ch val oa bs cp Fs sts w h hs
  · exact ftry_true ch val oa bs cp Fs sts w h hs
end Fk
end Go.Proofs.Ytipimagajnocjaa
/- The reference's Try, over this seat's program. -/
namespace Go.Proofs.Ytipimagajnocjaa
open Go.ChangeShapes Go.WideShapes Go.ChangeAt Go.RowKit
namespace Fk
open Ba Pe _root_.Go.Proofs.Ytipimagajnocjaa.Pi Rp

set_option maxRecDepth 100000 in
set_option maxHeartbeats 6400000 in
theorem rtry_false (ch val : Int) (oa : Option Addr) (bs : List (Option Nat)) (cp : Nat) (Fs : Nat → Nat → Prop) (sts : List (Option St)) (w : World) (h : Qs Rr w oa bs Fs sts) (hs : Sml sts) :
    Calls Try.prog 21 #[cv ⟨false, ch, val⟩, .slice oa bs.length cp] w fun r w' => r = .returned (.tuple #[gv (tryG sts ⟨false, ch, val⟩), .int .i64 (tryE sts ⟨false, ch, val⟩)]) ∧ Rz Rr w w' oa bs Fs (tryS sts ⟨false, ch, val⟩) := by
  have b1 := below_alloc w (.cells #[.bool false, .int .i64 ch, .int .i64 val] 32)
  have b2 := below_alloc (w.alloc (.cells #[.bool false, .int .i64 ch, .int .i64 val] 32)) (.cells #[.bool false, .bool false, .bool false, .int .i64 0, .int .i64 0, .int .i64 0, .int .i64 0] 64)
  have BB := hide (btr b1 b2)
  have X2 := hide (heap_below (heap_new w (.cells #[.bool false, .int .i64 ch, .int .i64 val] 32)) b2)
  have hz := heap_new (w.alloc (.cells #[.bool false, .int .i64 ch, .int .i64 val] 32)) (.cells #[.bool false, .bool false, .bool false, .int .i64 0, .int .i64 0, .int .i64 0, .int .i64 0] 64)
  rw [World.size_alloc] at hz
  have Z2 := hide hz
  have NM := hide (rnamed_any oa bs ch cp _ (h.row.below BB.out))
  have H := hide h
  have hS2 : ((w.alloc (.cells #[.bool false, .int .i64 ch, .int .i64 val] 32)).alloc (.cells #[.bool false, .bool false, .bool false, .int .i64 0, .int .i64 0, .int .i64 0, .int .i64 0] 64)).heap.size = w.heap.size + 2 := by rw [World.size_alloc, World.size_alloc]
  have NZ : Hid (∀ i, ¬ Fs i (w.heap.size + 1)) := fun i e => by have := h.bd i _ e; omega
  have RR : Hid (∀ a, oa = some a → a.block < w.heap.size ∨ bs = []) := fun a e => by
    cases hb : bs with
    | nil => exact .inr rfl
    | cons o t => exact .inl (h.rl (i := 0) (o := o) (by rw [hb]; rfl) a e)
  clear b1 b2 hz
  unfold tryG tryE tryS cv
  rcases h.nm ch with ⟨e1, e2⟩ | ⟨B, st, e1, e2, h0, hl, hi, hi2, q⟩
  · rw [e2]
    simp only
    rw [e1] at NM
    simp only [pt, Option.map_none] at NM
    clear h e1 e2
    go_enter Try.func21, Try.ntmps21
    go_wp2_with fail
    generalize (w.alloc (.cells #[.bool false, .int .i64 ch, .int .i64 val] 32)).alloc (.cells #[.bool false, .bool false, .bool false, .int .i64 0, .int .i64 0, .int .i64 0, .int .i64 0] 64) = W2 at BB X2 Z2 NM hS2 ⊢
    refine NM.out.mono ?_
    rintro r w2 ⟨rfl, rfl⟩
    have x0 : w2.cell? ⟨w.heap.size, 0, none⟩ = some (.bool false) := cell_of X2.out 0
    have x2 : w2.cell? ⟨w.heap.size, 2, none⟩ = some (.int .i64 val) := cell_of X2.out 2
    have z0 : w2.cell? ⟨w.heap.size + 1, 0, none⟩ = some (.bool false) := cell_of Z2.out 0
    have zf0 := frozen_of Z2.out 0
    have z1 : w2.cell? ⟨w.heap.size + 1, 1, none⟩ = some (.bool false) := cell_of Z2.out 1
    have zf1 := frozen_of Z2.out 1
    have z2 : w2.cell? ⟨w.heap.size + 1, 2, none⟩ = some (.bool false) := cell_of Z2.out 2
    have zf2 := frozen_of Z2.out 2
    have z3 : w2.cell? ⟨w.heap.size + 1, 3, none⟩ = some (.int .i64 0) := cell_of Z2.out 3
    have zf3 := frozen_of Z2.out 3
    have z4 : w2.cell? ⟨w.heap.size + 1, 4, none⟩ = some (.int .i64 0) := cell_of Z2.out 4
    have zf4 := frozen_of Z2.out 4
    have z5 : w2.cell? ⟨w.heap.size + 1, 5, none⟩ = some (.int .i64 0) := cell_of Z2.out 5
    have zf5 := frozen_of Z2.out 5
    have z6 : w2.cell? ⟨w.heap.size + 1, 6, none⟩ = some (.int .i64 0) := cell_of Z2.out 6
    have zf6 := frozen_of Z2.out 6
    go_wp2_with fail
    exact bodyPost_ret (results_row2 Try.results21 _ _ _ _ _ rfl rfl (loadVar_rgot (got_set Z2.out _ _ _ _ _ _ _) rfl)) rfl ⟨rfl, Rz.set7 frR ⟨Fs, NwA.refl _ _, H.out.below frR BB.out, KF.of BB.out, NZ.out⟩ (Nat.le_succ _) RR.out _ _ _ _ _ _ _⟩
  · rw [e2]
    simp only [Bool.false_eq_true, if_false]
    rw [e1] at NM
    simp only [pt, Option.map_some] at NM
    have hb1 := (hs _ _ hi2).1
    have hb2 := (hs _ _ hi2).2
    have HI := hide hi
    have P2 := hide (q.below BB.out)
    clear h e1 e2 q hi hi2 h0 hl
    have CL := hide (rrecv_any B _ st _ P2.out hb1 hb2)
    generalize recvG st = gg at CL ⊢
    skip
    obtain ⟨rd, ok, wk, v, ⟨mg, mc, mv⟩⟩ := gg
    unfold gv at CL ⊢
    go_enter Try.func21, Try.ntmps21
    go_wp2_with fail
    generalize (w.alloc (.cells #[.bool false, .int .i64 ch, .int .i64 val] 32)).alloc (.cells #[.bool false, .bool false, .bool false, .int .i64 0, .int .i64 0, .int .i64 0, .int .i64 0] 64) = W2 at BB X2 Z2 NM hS2 P2 CL ⊢
    refine NM.out.mono ?_
    rintro r w2 ⟨rfl, rfl⟩
    have x0 : w2.cell? ⟨w.heap.size, 0, none⟩ = some (.bool false) := cell_of X2.out 0
    have x2 : w2.cell? ⟨w.heap.size, 2, none⟩ = some (.int .i64 val) := cell_of X2.out 2
    go_wp2_with fail
    refine CL.out.mono ?_
    rintro r w3 ⟨rfl, k3, F3, n3, p3⟩
    have Z3 := hide (k3.heap Z2.out (NZ.out _))
    have R3 := hide (Rz.step frR H.out BB.out HI.out k3 n3 p3)
    have NZ3 : Hid (∃ Fs', NwA Fs' Fs w ∧ Qs Rr w3 oa bs Fs' (sts.set ch.toNat (some (recvS st))) ∧ KF (All Fs) w w3 ∧ ∀ i, ¬ Fs' i (w.heap.size + 1)) := by
      have ha := H.out.below frR BB.out
      refine ⟨up Fs ch.toNat F3, ?_, ha.step frR HI.out k3 n3 p3 (ha.rl HI.out), (KF.of (F := All Fs) BB.out).trans k3 (fun x hx => .inl ⟨_, hx⟩), ?_⟩
      · intro j x hx
        by_cases e : j = ch.toNat
        · subst e
          rw [up_same] at hx
          rcases n3 x hx with z | z
          · exact .inl ⟨_, z⟩
          · exact .inr (by omega)
        · rw [up_other _ _ _ _ e] at hx
          exact .inl ⟨j, hx⟩
      · intro j hx
        by_cases e : j = ch.toNat
        · subst e
          rw [up_same] at hx
          rcases n3 _ hx with z | z
          · exact NZ.out _ z
          · omega
        · rw [up_other _ _ _ _ e] at hx
          exact NZ.out _ hx
    clear k3 n3 p3 R3
    have z0 : w3.cell? ⟨w.heap.size + 1, 0, none⟩ = some (.bool false) := cell_of Z3.out 0
    have zf0 := frozen_of Z3.out 0
    have z1 : w3.cell? ⟨w.heap.size + 1, 1, none⟩ = some (.bool false) := cell_of Z3.out 1
    have zf1 := frozen_of Z3.out 1
    have z2 : w3.cell? ⟨w.heap.size + 1, 2, none⟩ = some (.bool false) := cell_of Z3.out 2
    have zf2 := frozen_of Z3.out 2
    have z3 : w3.cell? ⟨w.heap.size + 1, 3, none⟩ = some (.int .i64 0) := cell_of Z3.out 3
    have zf3 := frozen_of Z3.out 3
    have z4 : w3.cell? ⟨w.heap.size + 1, 4, none⟩ = some (.int .i64 0) := cell_of Z3.out 4
    have zf4 := frozen_of Z3.out 4
    have z5 : w3.cell? ⟨w.heap.size + 1, 5, none⟩ = some (.int .i64 0) := cell_of Z3.out 5
    have zf5 := frozen_of Z3.out 5
    have z6 : w3.cell? ⟨w.heap.size + 1, 6, none⟩ = some (.int .i64 0) := cell_of Z3.out 6
    have zf6 := frozen_of Z3.out 6
    go_wp2_with fail
    exact bodyPost_ret (results_row2 Try.results21 _ _ _ _ _ rfl rfl (loadVar_rgot (got_set Z3.out _ _ _ _ _ _ _) rfl)) rfl ⟨rfl, Rz.set7 frR NZ3.out (Nat.le_succ _) RR.out _ _ _ _ _ _ _⟩
set_option maxRecDepth 100000 in
set_option maxHeartbeats 6400000 in
theorem rtry_true (ch val : Int) (oa : Option Addr) (bs : List (Option Nat)) (cp : Nat) (Fs : Nat → Nat → Prop) (sts : List (Option St)) (w : World) (h : Qs Rr w oa bs Fs sts) (hs : Sml sts) :
    Calls Try.prog 21 #[cv ⟨true, ch, val⟩, .slice oa bs.length cp] w fun r w' => r = .returned (.tuple #[gv (tryG sts ⟨true, ch, val⟩), .int .i64 (tryE sts ⟨true, ch, val⟩)]) ∧ Rz Rr w w' oa bs Fs (tryS sts ⟨true, ch, val⟩) := by
  have b1 := below_alloc w (.cells #[.bool true, .int .i64 ch, .int .i64 val] 32)
  have b2 := below_alloc (w.alloc (.cells #[.bool true, .int .i64 ch, .int .i64 val] 32)) (.cells #[.bool false, .bool false, .bool false, .int .i64 0, .int .i64 0, .int .i64 0, .int .i64 0] 64)
  have BB := hide (btr b1 b2)
  have X2 := hide (heap_below (heap_new w (.cells #[.bool true, .int .i64 ch, .int .i64 val] 32)) b2)
  have hz := heap_new (w.alloc (.cells #[.bool true, .int .i64 ch, .int .i64 val] 32)) (.cells #[.bool false, .bool false, .bool false, .int .i64 0, .int .i64 0, .int .i64 0, .int .i64 0] 64)
  rw [World.size_alloc] at hz
  have Z2 := hide hz
  have NM := hide (rnamed_any oa bs ch cp _ (h.row.below BB.out))
  have H := hide h
  have hS2 : ((w.alloc (.cells #[.bool true, .int .i64 ch, .int .i64 val] 32)).alloc (.cells #[.bool false, .bool false, .bool false, .int .i64 0, .int .i64 0, .int .i64 0, .int .i64 0] 64)).heap.size = w.heap.size + 2 := by rw [World.size_alloc, World.size_alloc]
  have NZ : Hid (∀ i, ¬ Fs i (w.heap.size + 1)) := fun i e => by have := h.bd i _ e; omega
  have RR : Hid (∀ a, oa = some a → a.block < w.heap.size ∨ bs = []) := fun a e => by
    cases hb : bs with
    | nil => exact .inr rfl
    | cons o t => exact .inl (h.rl (i := 0) (o := o) (by rw [hb]; rfl) a e)
  clear b1 b2 hz
  unfold tryG tryE tryS cv
  rcases h.nm ch with ⟨e1, e2⟩ | ⟨B, st, e1, e2, h0, hl, hi, hi2, q⟩
  · rw [e2]
    simp only
    rw [e1] at NM
    simp only [pt, Option.map_none] at NM
    clear h e1 e2
    go_enter Try.func21, Try.ntmps21
    go_wp2_with fail
    generalize (w.alloc (.cells #[.bool true, .int .i64 ch, .int .i64 val] 32)).alloc (.cells #[.bool false, .bool false, .bool false, .int .i64 0, .int .i64 0, .int .i64 0, .int .i64 0] 64) = W2 at BB X2 Z2 NM hS2 ⊢
    refine NM.out.mono ?_
    rintro r w2 ⟨rfl, rfl⟩
    have x0 : w2.cell? ⟨w.heap.size, 0, none⟩ = some (.bool true) := cell_of X2.out 0
    have x2 : w2.cell? ⟨w.heap.size, 2, none⟩ = some (.int .i64 val) := cell_of X2.out 2
    have z0 : w2.cell? ⟨w.heap.size + 1, 0, none⟩ = some (.bool false) := cell_of Z2.out 0
    have zf0 := frozen_of Z2.out 0
    have z1 : w2.cell? ⟨w.heap.size + 1, 1, none⟩ = some (.bool false) := cell_of Z2.out 1
    have zf1 := frozen_of Z2.out 1
    have z2 : w2.cell? ⟨w.heap.size + 1, 2, none⟩ = some (.bool false) := cell_of Z2.out 2
    have zf2 := frozen_of Z2.out 2
    have z3 : w2.cell? ⟨w.heap.size + 1, 3, none⟩ = some (.int .i64 0) := cell_of Z2.out 3
    have zf3 := frozen_of Z2.out 3
    have z4 : w2.cell? ⟨w.heap.size + 1, 4, none⟩ = some (.int .i64 0) := cell_of Z2.out 4
    have zf4 := frozen_of Z2.out 4
    have z5 : w2.cell? ⟨w.heap.size + 1, 5, none⟩ = some (.int .i64 0) := cell_of Z2.out 5
    have zf5 := frozen_of Z2.out 5
    have z6 : w2.cell? ⟨w.heap.size + 1, 6, none⟩ = some (.int .i64 0) := cell_of Z2.out 6
    have zf6 := frozen_of Z2.out 6
    go_wp2_with fail
    exact bodyPost_ret (results_row2 Try.results21 _ _ _ _ _ rfl rfl (loadVar_rgot (got_set Z2.out _ _ _ _ _ _ _) rfl)) rfl ⟨rfl, Rz.set7 frR ⟨Fs, NwA.refl _ _, H.out.below frR BB.out, KF.of BB.out, NZ.out⟩ (Nat.le_succ _) RR.out _ _ _ _ _ _ _⟩
  · rw [e2]
    simp only [if_true]
    rw [e1] at NM
    simp only [pt, Option.map_some] at NM
    have hb1 := (hs _ _ hi2).1
    have hb2 := (hs _ _ hi2).2
    have HI := hide hi
    have P2 := hide (q.below BB.out)
    clear h e1 e2 q hi hi2 h0 hl
    have CL := hide (rsend_any B _ st val _ P2.out hb1 hb2)
    generalize sendG st = gg at CL ⊢
    generalize sendE st = ee at CL ⊢
    obtain ⟨rd, ok, wk, v, ⟨mg, mc, mv⟩⟩ := gg
    unfold gv at CL ⊢
    go_enter Try.func21, Try.ntmps21
    go_wp2_with fail
    generalize (w.alloc (.cells #[.bool true, .int .i64 ch, .int .i64 val] 32)).alloc (.cells #[.bool false, .bool false, .bool false, .int .i64 0, .int .i64 0, .int .i64 0, .int .i64 0] 64) = W2 at BB X2 Z2 NM hS2 P2 CL ⊢
    refine NM.out.mono ?_
    rintro r w2 ⟨rfl, rfl⟩
    have x0 : w2.cell? ⟨w.heap.size, 0, none⟩ = some (.bool true) := cell_of X2.out 0
    have x2 : w2.cell? ⟨w.heap.size, 2, none⟩ = some (.int .i64 val) := cell_of X2.out 2
    go_wp2_with fail
    refine CL.out.mono ?_
    rintro r w3 ⟨rfl, k3, F3, n3, p3⟩
    have Z3 := hide (k3.heap Z2.out (NZ.out _))
    have R3 := hide (Rz.step frR H.out BB.out HI.out k3 n3 p3)
    have NZ3 : Hid (∃ Fs', NwA Fs' Fs w ∧ Qs Rr w3 oa bs Fs' (sts.set ch.toNat (some (sendS st val))) ∧ KF (All Fs) w w3 ∧ ∀ i, ¬ Fs' i (w.heap.size + 1)) := by
      have ha := H.out.below frR BB.out
      refine ⟨up Fs ch.toNat F3, ?_, ha.step frR HI.out k3 n3 p3 (ha.rl HI.out), (KF.of (F := All Fs) BB.out).trans k3 (fun x hx => .inl ⟨_, hx⟩), ?_⟩
      · intro j x hx
        by_cases e : j = ch.toNat
        · subst e
          rw [up_same] at hx
          rcases n3 x hx with z | z
          · exact .inl ⟨_, z⟩
          · exact .inr (by omega)
        · rw [up_other _ _ _ _ e] at hx
          exact .inl ⟨j, hx⟩
      · intro j hx
        by_cases e : j = ch.toNat
        · subst e
          rw [up_same] at hx
          rcases n3 _ hx with z | z
          · exact NZ.out _ z
          · omega
        · rw [up_other _ _ _ _ e] at hx
          exact NZ.out _ hx
    clear k3 n3 p3 R3
    have z0 : w3.cell? ⟨w.heap.size + 1, 0, none⟩ = some (.bool false) := cell_of Z3.out 0
    have zf0 := frozen_of Z3.out 0
    have z1 : w3.cell? ⟨w.heap.size + 1, 1, none⟩ = some (.bool false) := cell_of Z3.out 1
    have zf1 := frozen_of Z3.out 1
    have z2 : w3.cell? ⟨w.heap.size + 1, 2, none⟩ = some (.bool false) := cell_of Z3.out 2
    have zf2 := frozen_of Z3.out 2
    have z3 : w3.cell? ⟨w.heap.size + 1, 3, none⟩ = some (.int .i64 0) := cell_of Z3.out 3
    have zf3 := frozen_of Z3.out 3
    have z4 : w3.cell? ⟨w.heap.size + 1, 4, none⟩ = some (.int .i64 0) := cell_of Z3.out 4
    have zf4 := frozen_of Z3.out 4
    have z5 : w3.cell? ⟨w.heap.size + 1, 5, none⟩ = some (.int .i64 0) := cell_of Z3.out 5
    have zf5 := frozen_of Z3.out 5
    have z6 : w3.cell? ⟨w.heap.size + 1, 6, none⟩ = some (.int .i64 0) := cell_of Z3.out 6
    have zf6 := frozen_of Z3.out 6
    go_wp2_with fail
    exact bodyPost_ret (results_row2 Try.results21 _ _ _ _ _ rfl rfl (loadVar_rgot (got_set Z3.out _ _ _ _ _ _ _) rfl)) rfl ⟨rfl, Rz.set7 frR NZ3.out (Nat.le_succ _) RR.out _ _ _ _ _ _ _⟩
theorem rtry_any (c : Ca) (oa : Option Addr) (bs : List (Option Nat)) (cp : Nat) (Fs : Nat → Nat → Prop) (sts : List (Option St)) (w : World) (h : Qs Rr w oa bs Fs sts) (hs : Sml sts) :
    Calls Try.prog 21 #[cv c, .slice oa bs.length cp] w fun r w' => r = .returned (.tuple #[gv (tryG sts c), .int .i64 (tryE sts c)]) ∧ Rz Rr w w' oa bs Fs (tryS sts c) := by
  obtain ⟨sd, ch, val⟩ := c
  cases sd
  · exact rtry_false ch val oa bs cp Fs sts w h hs
  · exact rtry_true ch val oa bs cp Fs sts w h hs
end Fk
end Go.Proofs.Ytipimagajnocjaa
/- The laws' own one(), walked. -/
namespace Go.Proofs.Ytipimagajnocjaa
open Go.ChangeShapes Go.WideShapes Go.ChangeAt Go.RowKit
namespace Fk
open Ba Pe _root_.Go.Proofs.Ytipimagajnocjaa.Pi Rp

theorem at_keep {w w' : World} {oa : Option Addr} {l : List Int} (h : At w oa l) (hk : ∀ a, oa = some a → w'.heap[a.block]? = w.heap[a.block]?) : At w' oa l := by
  intro k hl
  obtain ⟨b, off, e, hc⟩ := h k hl
  have q := hk _ e
  simp only at q
  refine ⟨b, off, e, ?_⟩
  rw [← hc]
  simp only [World.cell?, q]
theorem sml1 : Sml s1 := by
  intro i st h
  match i, h with
  | 0, h => simp [s1] at h; subst h; exact ⟨by decide, by decide⟩
  | 1, h => simp [s1] at h; subst h; exact ⟨by decide, by decide⟩
  | i + 2, h => simp [s1] at h
theorem le2 : ∀ (i : Nat) (st : St), s2[i]? = some (some st) → ∀ b, (Pi.own st b).length ≤ 1000 := by
  intro i st h b
  match i, h with
  | 0, h => simp [s2] at h; subst h; cases b <;> decide
  | 1, h => simp [s2] at h; subst h; cases b <;> decide
  | i + 2, h => simp [s2] at h
set_option maxRecDepth 100000 in
set_option maxHeartbeats 6400000 in
theorem one_any (w : World) :
    Calls Try.prog 7 #[] w fun r w' => r = .returned (.bool true) ∧ Below w.heap.size w w' := by
  have N1 : Hid (∀ u, Calls Try.prog 18 #[.int .i64 1] u fun r w' => ∃ B F, r = .returned (.tuple #[.pointer (some ⟨B, 0, none⟩), .int .i64 0]) ∧ Pp w' B F (st0 1) ∧ (∀ k, F k → u.heap.size ≤ k) ∧ Below u.heap.size u w') := fun u => Pi.new_ok 1 u (by decide)
  have N0 : Hid (∀ u, Calls Try.prog 18 #[.int .i64 0] u fun r w' => ∃ B F, r = .returned (.tuple #[.pointer (some ⟨B, 0, none⟩), .int .i64 0]) ∧ Pp w' B F (st0 0) ∧ (∀ k, F k → u.heap.size ≤ k) ∧ Below u.heap.size u w') := fun u => Pi.new_ok 0 u (by decide)
  go_enter Try.func7, Try.ntmps7
  go_wp2_with fail
  refine (N1.out _).mono ?_
  rintro r w1 ⟨B, F, rfl, p1, l1', b1⟩
  have P1 := hide p1
  have L1 := hide l1'
  have B1 := hide b1
  clear p1 l1' b1
  go_wp2_with fail
  refine (N0.out _).mono ?_
  rintro r w2 ⟨C, G, rfl, q2, l2, b2⟩
  have P2 := hide (P1.out.below b2)
  have Q2 := hide q2
  have D2 : Hid (∀ x, F x → ¬ G x) := fun x hx hg => by have h1 := P1.out.bd x hx; have h2 := l2 x hg; omega
  have LF := hide L1.out
  have LG : Hid (∀ x, G x → w.heap.size ≤ x) := fun x hx => Nat.le_trans B1.out.size (l2 x hx)
  have B2 := hide (btr B1.out b2)
  clear q2 l2 b2 N1 N0 P1 L1 B1
  go_wp2_with fail
  refine (send_any B F (st0 1) 7 _ P2.out (by decide) (by decide)).mono ?_
  rintro r w4 ⟨rfl, k4, F4, n4, p4⟩
  have P4 := hide p4
  have Q4 := hide (frP.sm Q2.out (Sm.kf k4 Q2.out.bd (fun x hx hf => D2.out x hf hx)))
  have D4 : Hid (∀ x, F4 x → ¬ G x) := fun x hx hg => by
    rcases n4 x hx with z | z
    · exact D2.out x z hg
    · have := Q2.out.bd x hg
      omega
  have LF4 : Hid (∀ x, F4 x → w.heap.size ≤ x) := fun x hx => by
    rcases n4 x hx with z | z
    · exact LF.out x z
    · exact Nat.le_trans B2.out.size z
  have B4 := hide (k4.below B2.out LF.out)
  clear k4 n4 p4 P2 Q2 D2 LF B2
  have bl := below_alloc w4 (.cells #[.bool false, .int .i64 0, .int .i64 0, .bool true, .int .i64 1, .int .i64 5] 32)
  have bp := below_alloc (w4.alloc (.cells #[.bool false, .int .i64 0, .int .i64 0, .bool true, .int .i64 1, .int .i64 5] 32)) (.cells #[.pointer (some ⟨B, 0, none⟩), .pointer (some ⟨C, 0, none⟩)] 55)
  have B6 := hide (btr bl bp)
  have K6 := hide (heap_below (heap_new w4 (.cells #[.bool false, .int .i64 0, .int .i64 0, .bool true, .int .i64 1, .int .i64 5] 32)) bp)
  have hy := heap_new (w4.alloc (.cells #[.bool false, .int .i64 0, .int .i64 0, .bool true, .int .i64 1, .int .i64 5] 32)) (.cells #[.pointer (some ⟨B, 0, none⟩), .pointer (some ⟨C, 0, none⟩)] 55)
  rw [World.size_alloc] at hy
  have Y6 := hide hy
  have O6 : Hid (On w ((w4.alloc (.cells #[.bool false, .int .i64 0, .int .i64 0, .bool true, .int .i64 1, .int .i64 5] 32)).alloc (.cells #[.pointer (some ⟨B, 0, none⟩), .pointer (some ⟨C, 0, none⟩)] 55)) (some ⟨w4.heap.size + 1, 0, none⟩) [some B, some C] (two F4 G) s1) := by
    refine ⟨qs_two (P4.out.below B6.out) (Q4.out.below B6.out) D4.out hy (fun h => by have := P4.out.bd _ h; omega) (fun h => by have := Q4.out.bd _ h; omega), btr B4.out B6.out, ?_⟩
    rintro x ⟨i, hi⟩
    match i, hi with
    | 0, hi => exact LF4.out x hi
    | 1, hi => exact LG.out x hi
    | i + 2, hi => exact hi.elim
  have NK : Hid (¬ All (two F4 G) w4.heap.size) := by
    rintro ⟨i, hi⟩
    match i, hi with
    | 0, hi => have := P4.out.bd _ hi; omega
    | 1, hi => have := Q4.out.bd _ hi; omega
    | i + 2, hi => exact hi
  have RDY := hide (fready_any (some ⟨w4.heap.size, 0, none⟩) l1 2 (some ⟨w4.heap.size + 1, 0, none⟩) [some B, some C] 2 _ s1 _ (l1_at K6.out) O6.out.q (by decide))
  rw [r1] at RDY
  simp only [l1, List.length_cons, List.length_nil] at RDY
  clear bl bp hy P4 Q4 D4 LF4 LG B4 B6
  unfold gv
  go_wp2_with fail
  generalize (w4.alloc (.cells #[.bool false, .int .i64 0, .int .i64 0, .bool true, .int .i64 1, .int .i64 5] 32)).alloc (.cells #[.pointer (some ⟨B, 0, none⟩), .pointer (some ⟨C, 0, none⟩)] 55) = W6 at K6 Y6 O6 RDY ⊢
  generalize w4.heap.size = K at K6 Y6 O6 NK RDY ⊢
  generalize two F4 G = Fs at O6 NK RDY
  refine RDY.out.mono ?_
  rintro r w7 ⟨ob, d, rfl, ow7, b7⟩
  obtain ⟨ob', d', e7, at7, nb7⟩ := own_at2 (l := [0]) ow7
  simp only [Value.slice.injEq] at e7
  obtain ⟨rfl, -, rfl⟩ := e7
  have A7 := hide at7
  have NB7 : Hid (∀ a, ob = some a → a.block < w7.heap.size ∧ ¬ All Fs a.block) := by
    intro a e
    refine ⟨at7.lt (by decide) a e, ?_⟩
    rintro ⟨i, hi⟩
    have h1 := O6.out.q.bd i _ hi
    have h2 := nb7 a e
    omega
  have O7 := hide (O6.out.below b7)
  have K7 := hide (heap_below K6.out b7)
  clear ow7 at7 nb7 b7 O6 K6 Y6 RDY
  have k0 : w7.cell? ⟨K, 0, none⟩ = some (.bool false) := cell_of K7.out 0
  have k1 : w7.cell? ⟨K, 1, none⟩ = some (.int .i64 0) := cell_of K7.out 1
  have k2 : w7.cell? ⟨K, 2, none⟩ = some (.int .i64 0) := cell_of K7.out 2
  have TR := hide (ftry_any ⟨false, 0, 0⟩ (some ⟨K + 1, 0, none⟩) [some B, some C] 2 Fs s1 w7 O7.out.q sml1)
  rw [t1, t1e, t1s] at TR
  unfold cv gv at TR
  simp only [List.length_cons, List.length_nil] at TR
  go_wp2_with fail
  refine TR.out.mono ?_
  rintro r w8 ⟨rfl, rz8⟩
  obtain ⟨Fs8, o8, st8⟩ := O7.out.step rz8
  have hK7 := heap_lt K7.out
  have b9 := below_alloc w8 (.cells #[.bool true, .bool true, .bool false, .int .i64 7, .int .i64 0, .int .i64 0, .int .i64 0] 51)
  have O9 := hide (o8.below b9)
  have K9 := hide (heap_below ((st8 K hK7 NK.out).1.trans K7.out) b9)
  have NK9 := hide (st8 K hK7 NK.out).2
  have A9 := hide ((at_keep A7.out (fun a e => (st8 _ (NB7.out a e).1 (NB7.out a e).2).1)).below b9)
  have G9 := hide (heap_new w8 (.cells #[.bool true, .bool true, .bool false, .int .i64 7, .int .i64 0, .int .i64 0, .int .i64 0] 51))
  have NG9 : Hid (¬ All Fs8 w8.heap.size) := by
    rintro ⟨i, hi⟩
    have := o8.q.bd i _ hi
    omega
  have NB9 : Hid (∀ a, ob = some a → a.block < (w8.alloc (.cells #[.bool true, .bool true, .bool false, .int .i64 7, .int .i64 0, .int .i64 0, .int .i64 0] 51)).heap.size ∧ ¬ All Fs8 a.block) := fun a e => ⟨A9.out.lt (by decide) a e, (st8 _ (NB7.out a e).1 (NB7.out a e).2).2⟩
  have PK := hide (park_any 3 (some ⟨K, 0, none⟩) l1 2 (some ⟨K + 1, 0, none⟩) [some B, some C] 2 Fs8 s2 _ (l1_at K9.out) (fun _ a e => by cases e; exact NK9.out) O9.out.q le2)
  rw [p1n, p1e, p1s] at PK
  simp only [l1, List.length_cons, List.length_nil] at PK
  clear rz8 o8 st8 hK7 b9 TR k0 k1 k2 O7 K7 A7 NB7 NK
  go_wp2_with fail
  generalize w8.alloc (.cells #[.bool true, .bool true, .bool false, .int .i64 7, .int .i64 0, .int .i64 0, .int .i64 0] 51) = W9 at O9 K9 A9 G9 NB9 PK ⊢
  generalize w8.heap.size = Z at G9 NG9 ⊢
  refine PK.out.mono ?_
  rintro r w10 ⟨rfl, rz10⟩
  obtain ⟨Fs10, o10, st10⟩ := O9.out.step rz10
  have hZ := heap_lt G9.out
  have b11 := below_alloc w10 (.cells #[.int .i64 0] 3)
  have O11 := hide (o10.below b11)
  have G11 := hide (heap_below ((st10 Z hZ NG9.out).1.trans G9.out) b11)
  have A11 := hide ((at_keep A9.out (fun a e => (st10 _ (NB9.out a e).1 (NB9.out a e).2).1)).below b11)
  have I11 := hide (At.lit w10 [0] 3 #[.int .i64 0] rfl)
  clear rz10 o10 st10 hZ b11 PK O9 K9 A9 G9 NB9 NG9 NK9
  go_wp2_with fail
  refine (ints_is ob _ [0] [0] _ _ _ _ true (by decide) rfl rfl _ A11.out I11.out (by decide) (by decide)).mono ?_
  rintro r w12 ⟨rfl, b12⟩
  have O12 := hide (O11.out.below b12)
  have G12 := hide (heap_below G11.out b12)
  have z3 : w12.cell? ⟨Z, 3, none⟩ = some (.int .i64 7) := cell_of G12.out 3
  have LV := hide (leave_any 3 (some ⟨K + 1, 0, none⟩) [some B, some C] 2 Fs10 s3 w12 O12.out.q (by show 2 ≤ 1000; decide))
  rw [v1n] at LV
  simp only [List.length_cons, List.length_nil] at LV
  clear b12 O11 G11 A11 I11
  go_wp2_with fail
  refine LV.out.mono ?_
  rintro r w13 ⟨rfl, rz13⟩
  obtain ⟨Fs13, o13, -⟩ := O12.out.step rz13
  have B13 := hide o13.b
  clear rz13 o13 LV
  go_wp2_with fail
  go_ret
  exact ⟨rfl, B13.out⟩
end Fk
end Go.Proofs.Ytipimagajnocjaa
/- The channels of both, side by side. -/
namespace Go.Proofs.Ytipimagajnocjaa
open Go.ChangeShapes Go.WideShapes Go.ChangeAt Go.RowKit
namespace Fk
open Ba Pe _root_.Go.Proofs.Ytipimagajnocjaa.Pi Rp

/-- the program's channels, and the reference's, all newer than w, each other's blocks apart -/
structure Tw (w u : World) (oa : Option Addr) (bs : List (Option Nat)) (Fs : Nat → Nat → Prop) (ob : Option Addr) (gs : List (Option Nat)) (Gs : Nat → Nat → Prop) (sp sr : List (Option St)) : Prop where
  p : Qs Pp u oa bs Fs sp
  r : Qs Rr u ob gs Gs sr
  ap : ∀ x, All Fs x → ¬ All Gs x
  np : ∀ a, oa = some a → a.block < u.heap.size ∧ ¬ All Gs a.block
  nr : ∀ a, ob = some a → a.block < u.heap.size ∧ ¬ All Fs a.block
  b : Below w.heap.size w u
  lf : ∀ x, All Fs x → w.heap.size ≤ x
  lg : ∀ x, All Gs x → w.heap.size ≤ x
theorem Tw.below {w u v : World} {oa : Option Addr} {bs : List (Option Nat)} {Fs : Nat → Nat → Prop} {ob : Option Addr} {gs : List (Option Nat)} {Gs : Nat → Nat → Prop} {sp sr : List (Option St)} (h : Tw w u oa bs Fs ob gs Gs sp sr) (hb : Below u.heap.size u v) : Tw w v oa bs Fs ob gs Gs sp sr :=
  ⟨h.p.below frP hb, h.r.below frR hb, h.ap, fun a e => ⟨Nat.lt_of_lt_of_le (h.np a e).1 hb.size, (h.np a e).2⟩, fun a e => ⟨Nat.lt_of_lt_of_le (h.nr a e).1 hb.size, (h.nr a e).2⟩, btr h.b hb, h.lf, h.lg⟩
theorem all_bd {Q : World → Nat → (Nat → Prop) → St → Prop} {w : World} {oa : Option Addr} {bs : List (Option Nat)} {Fs : Nat → Nat → Prop} {sts : List (Option St)} (h : Qs Q w oa bs Fs sts) {x : Nat} (hx : All Fs x) : x < w.heap.size := by
  obtain ⟨i, hi⟩ := hx
  exact h.bd i x hi
/-- what is neither's stays -/
def Rest (u v : World) (Fs Gs Fs' Gs' : Nat → Nat → Prop) : Prop := u.heap.size ≤ v.heap.size ∧ ∀ x, x < u.heap.size → ¬ All Fs x → ¬ All Gs x → v.heap[x]? = u.heap[x]? ∧ ¬ All Fs' x ∧ ¬ All Gs' x
theorem Rest.heap {u v : World} {Fs Gs Fs' Gs' : Nat → Nat → Prop} (h : Rest u v Fs Gs Fs' Gs') {x : Nat} {o : Obj} (hx : u.heap[x]? = some o) (h1 : ¬ All Fs x) (h2 : ¬ All Gs x) : v.heap[x]? = some o := ((h.2 x (heap_lt hx) h1 h2).1).trans hx
theorem Rest.trans {u v z : World} {Fs Gs F1 G1 F2 G2 : Nat → Nat → Prop} (h : Rest u v Fs Gs F1 G1) (k : Rest v z F1 G1 F2 G2) : Rest u z Fs Gs F2 G2 :=
  ⟨Nat.le_trans h.1 k.1, fun x hx h1 h2 => by
    obtain ⟨e1, a1, a2⟩ := h.2 x hx h1 h2
    obtain ⟨e2, c1, c2⟩ := k.2 x (Nat.lt_of_lt_of_le hx h.1) a1 a2
    exact ⟨e2.trans e1, c1, c2⟩⟩
theorem Rest.below {u v : World} {Fs Gs : Nat → Nat → Prop} (hb : Below u.heap.size u v) : Rest u v Fs Gs Fs Gs := ⟨hb.size, fun x hx h1 h2 => ⟨hb.block x hx, h1, h2⟩⟩
theorem Tw.stepP {w u v : World} {oa : Option Addr} {bs : List (Option Nat)} {Fs : Nat → Nat → Prop} {ob : Option Addr} {gs : List (Option Nat)} {Gs : Nat → Nat → Prop} {sp sr sp' : List (Option St)} (h : Tw w u oa bs Fs ob gs Gs sp sr) (r : Rz Pp u v oa bs Fs sp') : ∃ Fs', Tw w v oa bs Fs' ob gs Gs sp' sr ∧ Rest u v Fs Gs Fs' Gs := by
  obtain ⟨Fs', n, q, k⟩ := r
  have nn : ∀ x, All Fs' x → All Fs x ∨ u.heap.size ≤ x := fun x ⟨i, hi⟩ => n i x hi
  refine ⟨Fs', ⟨q, h.r.kf frR k (fun i x hx hf => h.ap x hf ⟨i, hx⟩) (fun a e => (h.nr a e).2), ?_, ?_, ?_, k.below h.b h.lf, ?_, h.lg⟩, k.size, ?_⟩
  · intro x hx hg
    rcases nn x hx with z | z
    · exact h.ap x z hg
    · have := all_bd h.r hg
      omega
  · exact fun a e => ⟨Nat.lt_of_lt_of_le (h.np a e).1 k.size, (h.np a e).2⟩
  · intro a e
    refine ⟨Nat.lt_of_lt_of_le (h.nr a e).1 k.size, fun hf => ?_⟩
    rcases nn _ hf with z | z
    · exact (h.nr a e).2 z
    · have := (h.nr a e).1
      omega
  · intro x hx
    rcases nn x hx with z | z
    · exact h.lf x z
    · exact Nat.le_trans h.b.size z
  · intro x hx h1 h2
    refine ⟨k.block x hx h1, fun hf => ?_, h2⟩
    rcases nn x hf with z | z
    · exact h1 z
    · omega
theorem Tw.stepR {w u v : World} {oa : Option Addr} {bs : List (Option Nat)} {Fs : Nat → Nat → Prop} {ob : Option Addr} {gs : List (Option Nat)} {Gs : Nat → Nat → Prop} {sp sr sr' : List (Option St)} (h : Tw w u oa bs Fs ob gs Gs sp sr) (r : Rz Rr u v ob gs Gs sr') : ∃ Gs', Tw w v oa bs Fs ob gs Gs' sp sr' ∧ Rest u v Fs Gs Fs Gs' := by
  obtain ⟨Gs', n, q, k⟩ := r
  have nn : ∀ x, All Gs' x → All Gs x ∨ u.heap.size ≤ x := fun x ⟨i, hi⟩ => n i x hi
  refine ⟨Gs', ⟨h.p.kf frP k (fun i x hx hf => h.ap x ⟨i, hx⟩ hf) (fun a e => (h.np a e).2), q, ?_, ?_, ?_, k.below h.b h.lg, h.lf, ?_⟩, k.size, ?_⟩
  · intro x hx hg
    rcases nn x hg with z | z
    · exact h.ap x hx z
    · have := all_bd h.p hx
      omega
  · intro a e
    refine ⟨Nat.lt_of_lt_of_le (h.np a e).1 k.size, fun hf => ?_⟩
    rcases nn _ hf with z | z
    · exact (h.np a e).2 z
    · have := (h.np a e).1
      omega
  · exact fun a e => ⟨Nat.lt_of_lt_of_le (h.nr a e).1 k.size, (h.nr a e).2⟩
  · intro x hx
    rcases nn x hx with z | z
    · exact h.lg x z
    · exact Nat.le_trans h.b.size z
  · intro x hx h1 h2
    refine ⟨k.block x hx h2, h1, fun hf => ?_⟩
    rcases nn x hf with z | z
    · exact h2 z
    · omega
/-- counts and waiters are few behind m acts -/
def Cn (m : Nat) (s : List (Option St)) : Prop := ∀ (i : Nat) (st : St), s[i]? = some (some st) → st.sent ≤ m ∧ st.got ≤ m ∧ st.snd.length ≤ 4 * m ∧ st.rcv.length ≤ 4 * m
theorem Cn.sml {m : Nat} {s : List (Option St)} (h : Cn m s) (hm : m ≤ 1000) : Sml s := fun i st hi => by
  obtain ⟨h1, h2, _, _⟩ := h i st hi
  omega
theorem Cn.le {m : Nat} {s : List (Option St)} (h : Cn m s) (hm : m ≤ 250) : ∀ (i : Nat) (st : St), s[i]? = some (some st) → ∀ b, (own st b).length ≤ 1000 := fun i st hi b => by
  obtain ⟨_, _, h3, h4⟩ := h i st hi
  unfold own
  cases b <;> simp <;> omega
theorem Cn.mono {m k : Nat} {s : List (Option St)} (h : Cn m s) (hk : m ≤ k) : Cn k s := fun i st hi => by
  obtain ⟨h1, h2, h3, h4⟩ := h i st hi
  omega
theorem Cn.set {m : Nat} {s : List (Option St)} (h : Cn m s) (j : Nat) (st' : St) (hs : st'.sent ≤ m ∧ st'.got ≤ m ∧ st'.snd.length ≤ 4 * m ∧ st'.rcv.length ≤ 4 * m) : Cn m (s.set j (some st')) := by
  intro i st hi
  by_cases e : j = i
  · subst e
    have hl : j < s.length := by
      have := (List.getElem?_eq_some_iff.1 hi).1
      simpa using this
    rw [List.getElem?_set_self hl] at hi
    cases hi
    exact hs
  · rw [List.getElem?_set_ne e] at hi
    exact h i st hi
theorem al_le (l : List Wt) (x : Wt) {n : Nat} (h : l.length ≤ n) : (al l x).length ≤ n + 1 := Nat.le_trans (al_len l x) (by omega)
theorem wait_few {m : Nat} {st : St} {b : Bool} {x : Wt} (h : st.sent ≤ m ∧ st.got ≤ m ∧ st.snd.length ≤ 4 * m ∧ st.rcv.length ≤ 4 * m) : (waitS st b x).sent ≤ m + 1 ∧ (waitS st b x).got ≤ m + 1 ∧ (waitS st b x).snd.length ≤ 4 * (m + 1) ∧ (waitS st b x).rcv.length ≤ 4 * (m + 1) := by
  obtain ⟨h1, h2, h3, h4⟩ := h
  have a1 := al_le st.snd x h3
  have a2 := al_le st.rcv x h4
  unfold waitS
  split
  · omega
  · split
    · simp only; omega
    · simp only; omega
theorem drop_few {m : Nat} {st : St} {g : Int} (h : st.sent ≤ m ∧ st.got ≤ m ∧ st.snd.length ≤ 4 * m ∧ st.rcv.length ≤ 4 * m) : (dropS st g).sent ≤ m ∧ (dropS st g).got ≤ m ∧ (dropS st g).snd.length ≤ 4 * m ∧ (dropS st g).rcv.length ≤ 4 * m := by
  obtain ⟨h1, h2, h3, h4⟩ := h
  have a1 := dr_len g st.snd
  have a2 := dr_len g st.rcv
  unfold dropS
  simp only
  omega
theorem send_few {m : Nat} {st : St} {x : Int} (h : st.sent ≤ m ∧ st.got ≤ m ∧ st.snd.length ≤ 4 * m ∧ st.rcv.length ≤ 4 * m) : (sendS st x).sent ≤ m + 1 ∧ (sendS st x).got ≤ m + 1 ∧ (sendS st x).snd.length ≤ 4 * (m + 1) ∧ (sendS st x).rcv.length ≤ 4 * (m + 1) := by
  obtain ⟨h1, h2, h3, h4⟩ := h
  unfold sendS
  split
  · omega
  · split
    · rename_i t e
      rw [e] at h4
      simp at h4
      simp only
      omega
    · split
      · simp only; omega
      · omega
theorem recv_few {m : Nat} {st : St} (h : st.sent ≤ m ∧ st.got ≤ m ∧ st.snd.length ≤ 4 * m ∧ st.rcv.length ≤ 4 * m) : (recvS st).sent ≤ m + 1 ∧ (recvS st).got ≤ m + 1 ∧ (recvS st).snd.length ≤ 4 * (m + 1) ∧ (recvS st).rcv.length ≤ 4 * (m + 1) := by
  obtain ⟨h1, h2, h3, h4⟩ := h
  unfold recvS
  split
  · omega
  · rename_i e
    rw [e] at h3
    simp at h3
    simp only
    omega
  · simp only; omega
  · rename_i e
    rw [e] at h3
    simp at h3
    simp only
    omega
theorem close_few {m : Nat} {st : St} (h : st.sent ≤ m ∧ st.got ≤ m ∧ st.snd.length ≤ 4 * m ∧ st.rcv.length ≤ 4 * m) : (closeS st).sent ≤ m ∧ (closeS st).got ≤ m ∧ (closeS st).snd.length ≤ 4 * m ∧ (closeS st).rcv.length ≤ 4 * m := by
  obtain ⟨h1, h2, h3, h4⟩ := h
  unfold closeS
  split
  · omega
  · simp; omega
end Fk
end Go.Proofs.Ytipimagajnocjaa
/- The laws' own acts(), act by act: one parks, one closes, one looks. -/
namespace Go.Proofs.Ytipimagajnocjaa
open Go.ChangeShapes Go.WideShapes Go.ChangeAt Go.RowKit
namespace Fk
open Ba Pe _root_.Go.Proofs.Ytipimagajnocjaa.Pi Rp

/-- what an act leaves -/
def actS (what g : Int) (c : Ca) (l : List Ca) (s : List (Option St)) : List (Option St) :=
  if what = 0 then tryS s c
  else if what = 1 then (match nmB s c.ch with | none => s | some st => s.set c.ch.toNat (some (waitS st c.sd ⟨g, -1, c.v⟩)))
  else if what = 2 then pkA g l s
  else if what = 3 then leaveS g s
  else if what = 4 then (match nmB s c.ch with | none => s | some st => s.set c.ch.toNat (some (closeS st)))
  else s
def AcP (w u w' : World) (oa : Option Addr) (bs : List (Option Nat)) (Fs : Nat → Nat → Prop) (ob : Option Addr) (gs : List (Option Nat)) (Gs : Nat → Nat → Prop) (s' : List (Option St)) : Prop := ∃ Fs' Gs', Tw w w' oa bs Fs' ob gs Gs' s' s' ∧ Rest u w' Fs Gs Fs' Gs'
def Out (Fs Gs : Nat → Nat → Prop) (la : Option Addr) (l : List Ca) : Prop := 0 < l.length → ∀ a, la = some a → ¬ All Fs a.block ∧ ¬ All Gs a.block
theorem CaAt.rest {u v : World} {Fs Gs Fs' Gs' : Nat → Nat → Prop} {la : Option Addr} {l : List Ca} (h : CaAt u la l) (r : Rest u v Fs Gs Fs' Gs') (hn : Out Fs Gs la l) : CaAt v la l := by
  intro k x hk
  have hl : 0 < l.length := Nat.lt_of_le_of_lt (Nat.zero_le _) (List.getElem?_eq_some_iff.1 hk).1
  obtain ⟨b, off, e, h0, h1, h2⟩ := h k x hk
  have q := (r.2 b (World.block_lt_of_cell? u _ h0) (hn hl _ e).1 (hn hl _ e).2).1
  refine ⟨b, off, e, ?_, ?_, ?_⟩
  · rw [← h0]; simp only [World.cell?, q]
  · rw [← h1]; simp only [World.cell?, q]
  · rw [← h2]; simp only [World.cell?, q]
theorem Out.rest {u v : World} {Fs Gs Fs' Gs' : Nat → Nat → Prop} {la : Option Addr} {l : List Ca} (h : CaAt u la l) (r : Rest u v Fs Gs Fs' Gs') (hn : Out Fs Gs la l) : Out Fs' Gs' la l := fun hl a e => (r.2 a.block (h.lt hl a e) (hn hl a e).1 (hn hl a e).2).2
theorem new_not {w u : World} {oa : Option Addr} {bs : List (Option Nat)} {Fs : Nat → Nat → Prop} {ob : Option Addr} {gs : List (Option Nat)} {Gs : Nat → Nat → Prop} {sp sr : List (Option St)} (h : Tw w u oa bs Fs ob gs Gs sp sr) {x : Nat} (hx : u.heap.size ≤ x) : ¬ All Fs x ∧ ¬ All Gs x :=
  ⟨fun e => by have := all_bd h.p e; omega, fun e => by have := all_bd h.r e; omega⟩
set_option maxRecDepth 100000 in
set_option maxHeartbeats 6400000 in
theorem acts2 (w u : World) (what g : Int) (c : Ca) (l : List Ca) (la : Option Addr) (lc : Nat) (oa : Option Addr) (bs : List (Option Nat)) (cp : Nat) (Fs : Nat → Nat → Prop) (ob : Option Addr) (gs : List (Option Nat)) (cq : Nat) (Gs : Nat → Nat → Prop) (s : List (Option St)) (h : Tw w u oa bs Fs ob gs Gs s s) (hC : CaAt u la l) (hO : Out Fs Gs la l) (hle : ∀ (i : Nat) (st : St), s[i]? = some (some st) → ∀ b, (own st b).length ≤ 1000) (hw : what = 2) :
    Calls Try.prog 9 #[(.agg #[.slice oa bs.length cp, .slice ob gs.length cq]), (.agg #[.int .i64 what, .int .i64 g, .bool c.sd, .int .i64 c.ch, .int .i64 c.v, .slice la l.length lc])] u fun r w' => r = .returned (.bool true) ∧ AcP w u w' oa bs Fs ob gs Gs (pkA g l s) := by
  subst hw
  have b1 := below_alloc u (.cells #[.slice oa bs.length cp, .slice ob gs.length cq] 29)
  have b2 := below_alloc (u.alloc (.cells #[.slice oa bs.length cp, .slice ob gs.length cq] 29)) (.cells #[.int .i64 2, .int .i64 g, .bool c.sd, .int .i64 c.ch, .int .i64 c.v, .slice la l.length lc] 35)
  have BB := hide (btr b1 b2)
  have X2 := hide (heap_below (heap_new u (.cells #[.slice oa bs.length cp, .slice ob gs.length cq] 29)) b2)
  have hy := heap_new (u.alloc (.cells #[.slice oa bs.length cp, .slice ob gs.length cq] 29)) (.cells #[.int .i64 2, .int .i64 g, .bool c.sd, .int .i64 c.ch, .int .i64 c.v, .slice la l.length lc] 35)
  rw [World.size_alloc] at hy
  have Y2 := hide hy
  have T2 := hide (h.below BB.out)
  have C2 := hide (hC.below BB.out)
  have NX := hide (new_not h (Nat.le_refl _))
  have NY := hide (new_not h (Nat.le_succ _))
  have HO := hide hO
  have HLE := hide hle
  have PK := hide (park_any g la l lc oa bs cp Fs s _ C2.out (fun hl a e => (hO hl a e).1) T2.out.p hle)
  clear b1 b2 hy hC hO hle h
  go_enter Try.func9, Try.ntmps9
  go_wp2_with fail
  generalize (u.alloc (.cells #[.slice oa bs.length cp, .slice ob gs.length cq] 29)).alloc (.cells #[.int .i64 2, .int .i64 g, .bool c.sd, .int .i64 c.ch, .int .i64 c.v, .slice la l.length lc] 35) = U2 at BB X2 Y2 T2 C2 PK ⊢
  refine PK.out.mono ?_
  rintro r w3 ⟨rfl, rz3⟩
  obtain ⟨F3, t3, r3⟩ := T2.out.stepP rz3
  have X3 := hide (r3.heap X2.out NX.out.1 NX.out.2)
  have Y3 := hide (r3.heap Y2.out NY.out.1 NY.out.2)
  have PR3 := hide (rpark_any g la l lc ob gs cq Gs s _ (C2.out.rest r3 HO.out) (fun hl a e => (HO.out hl a e).2) t3.r HLE.out)
  have T3 := hide t3
  have R3 := hide ((Rest.below (Fs := Fs) (Gs := Gs) BB.out).trans r3)
  have x0 : w3.cell? ⟨u.heap.size, 0, none⟩ = some (.slice oa bs.length cp) := cell_of X3.out 0
  have x1 : w3.cell? ⟨u.heap.size, 1, none⟩ = some (.slice ob gs.length cq) := cell_of X3.out 1
  have y1 : w3.cell? ⟨u.heap.size + 1, 1, none⟩ = some (.int .i64 g) := cell_of Y3.out 1
  have y5 : w3.cell? ⟨u.heap.size + 1, 5, none⟩ = some (.slice la l.length lc) := cell_of Y3.out 5
  clear t3 r3 rz3 PK
  generalize pkN g l s = n3 at PR3
  generalize pkE g l s = e3 at PR3
  go_wp2_with fail
  refine PR3.out.mono ?_
  rintro r w4 ⟨rfl, rz4⟩
  obtain ⟨G4, t4, r4⟩ := T3.out.stepR rz4
  have FIN : Hid (AcP w u w4 oa bs Fs ob gs Gs (pkA g l s)) := ⟨F3, G4, t4, R3.out.trans r4⟩
  clear rz4 t4 r4 PR3 x0 x1 y1 y5
  go_wp2_with fail
  go_ret
  exact ⟨ret_bool (by simp), FIN.out⟩
set_option maxRecDepth 100000 in
set_option maxHeartbeats 6400000 in
theorem acts5 (w u : World) (what g : Int) (c : Ca) (l : List Ca) (la : Option Addr) (lc : Nat) (oa : Option Addr) (bs : List (Option Nat)) (cp : Nat) (Fs : Nat → Nat → Prop) (ob : Option Addr) (gs : List (Option Nat)) (cq : Nat) (Gs : Nat → Nat → Prop) (s : List (Option St)) (h : Tw w u oa bs Fs ob gs Gs s s) (h0 : what ≠ 0) (h1 : what ≠ 1) (h2 : what ≠ 2) (h3 : what ≠ 3) (h4 : what ≠ 4) :
    Calls Try.prog 9 #[(.agg #[.slice oa bs.length cp, .slice ob gs.length cq]), (.agg #[.int .i64 what, .int .i64 g, .bool c.sd, .int .i64 c.ch, .int .i64 c.v, .slice la l.length lc])] u fun r w' => r = .returned (.bool true) ∧ AcP w u w' oa bs Fs ob gs Gs s := by
  have b1 := below_alloc u (.cells #[.slice oa bs.length cp, .slice ob gs.length cq] 29)
  have b2 := below_alloc (u.alloc (.cells #[.slice oa bs.length cp, .slice ob gs.length cq] 29)) (.cells #[.int .i64 what, .int .i64 g, .bool c.sd, .int .i64 c.ch, .int .i64 c.v, .slice la l.length lc] 35)
  have BB := btr b1 b2
  have FIN : Hid (AcP w u ((u.alloc (.cells #[.slice oa bs.length cp, .slice ob gs.length cq] 29)).alloc (.cells #[.int .i64 what, .int .i64 g, .bool c.sd, .int .i64 c.ch, .int .i64 c.v, .slice la l.length lc] 35)) oa bs Fs ob gs Gs s) := ⟨Fs, Gs, h.below BB, Rest.below BB⟩
  have d0 : decide (what = 0) = false := decide_eq_false h0
  have d1 : decide (what = 1) = false := decide_eq_false h1
  have d2 : decide (what = 2) = false := decide_eq_false h2
  have d3 : decide (what = 3) = false := decide_eq_false h3
  have d4 : decide (what = 4) = false := decide_eq_false h4
  clear b1 b2 BB h
  go_enter Try.func9, Try.ntmps9
  go_wp2_with fail
  go_ret
  exact ⟨rfl, FIN.out⟩
end Fk
end Go.Proofs.Ytipimagajnocjaa
/- The laws' own acts(): one tries, one closes. -/
namespace Go.Proofs.Ytipimagajnocjaa
open Go.ChangeShapes Go.WideShapes Go.ChangeAt Go.RowKit
namespace Fk
open Ba Pe _root_.Go.Proofs.Ytipimagajnocjaa.Pi Rp

set_option maxRecDepth 100000 in
set_option maxHeartbeats 6400000 in
theorem acts0 (w u : World) (what g : Int) (c : Ca) (l : List Ca) (la : Option Addr) (lc : Nat) (oa : Option Addr) (bs : List (Option Nat)) (cp : Nat) (Fs : Nat → Nat → Prop) (ob : Option Addr) (gs : List (Option Nat)) (cq : Nat) (Gs : Nat → Nat → Prop) (s : List (Option St)) (h : Tw w u oa bs Fs ob gs Gs s s) (hs : Sml s) (hw : what = 0) :
    Calls Try.prog 9 #[(.agg #[.slice oa bs.length cp, .slice ob gs.length cq]), (.agg #[.int .i64 what, .int .i64 g, .bool c.sd, .int .i64 c.ch, .int .i64 c.v, .slice la l.length lc])] u fun r w' => r = .returned (.bool true) ∧ AcP w u w' oa bs Fs ob gs Gs (tryS s c) := by
  subst hw
  have b1 := below_alloc u (.cells #[.slice oa bs.length cp, .slice ob gs.length cq] 29)
  have b2 := below_alloc (u.alloc (.cells #[.slice oa bs.length cp, .slice ob gs.length cq] 29)) (.cells #[.int .i64 0, .int .i64 g, .bool c.sd, .int .i64 c.ch, .int .i64 c.v, .slice la l.length lc] 35)
  have BB := hide (btr b1 b2)
  have X2 := hide (heap_below (heap_new u (.cells #[.slice oa bs.length cp, .slice ob gs.length cq] 29)) b2)
  have hy := heap_new (u.alloc (.cells #[.slice oa bs.length cp, .slice ob gs.length cq] 29)) (.cells #[.int .i64 0, .int .i64 g, .bool c.sd, .int .i64 c.ch, .int .i64 c.v, .slice la l.length lc] 35)
  rw [World.size_alloc] at hy
  have Y2 := hide hy
  have T2 := hide (h.below BB.out)
  have NX := hide (new_not h (Nat.le_refl _))
  have NY := hide (new_not h (Nat.le_succ _))
  have HS := hide hs
  have PT := hide (ftry_any c oa bs cp Fs s _ T2.out.p hs)
  have RT : Hid (∀ z G1, Qs Rr z ob gs G1 s → Calls Try.prog 21 #[cv c, .slice ob gs.length cq] z fun r w' => r = .returned (.tuple #[gv (tryG s c), .int .i64 (tryE s c)]) ∧ Rz Rr z w' ob gs G1 (tryS s c)) := fun z G1 hz => rtry_any c ob gs cq G1 s z hz hs
  clear b1 b2 hy hs h
  generalize tryE s c = ee at PT RT
  generalize tryG s c = gg at PT RT
  obtain ⟨rd, ok, wk, v, ⟨mg, mc, mv⟩⟩ := gg
  unfold cv gv at PT RT
  have RF : Hid (∀ z, Calls Try.prog 22 #[wv ⟨mg, mc, mv⟩] z fun r w' => r = .returned (wv ⟨mg, mc, mv⟩) ∧ Below z.heap.size z w') := fun z => ref_any _ z
  unfold wv at RF
  go_enter Try.func9, Try.ntmps9
  go_wp2_with fail
  generalize (u.alloc (.cells #[.slice oa bs.length cp, .slice ob gs.length cq] 29)).alloc (.cells #[.int .i64 0, .int .i64 g, .bool c.sd, .int .i64 c.ch, .int .i64 c.v, .slice la l.length lc] 35) = U2 at BB X2 Y2 T2 PT ⊢
  refine PT.out.mono ?_
  rintro r w3 ⟨rfl, rz3⟩
  obtain ⟨F3, t3, r3⟩ := T2.out.stepP rz3
  have ba := below_alloc w3 (.cells #[.bool rd, .bool ok, .bool wk, .int .i64 v, .int .i64 mg, .int .i64 mc, .int .i64 mv] 51)
  have X3 := hide (heap_below (r3.heap X2.out NX.out.1 NX.out.2) ba)
  have Y3 := hide (heap_below (r3.heap Y2.out NY.out.1 NY.out.2) ba)
  have A3 := hide (heap_new w3 (.cells #[.bool rd, .bool ok, .bool wk, .int .i64 v, .int .i64 mg, .int .i64 mc, .int .i64 mv] 51))
  have NA := hide (new_not t3 (Nat.le_refl _))
  have T3 := hide (t3.below ba)
  have R3 := hide (((Rest.below (Fs := Fs) (Gs := Gs) BB.out).trans r3).trans (Rest.below ba))
  have x1 : (w3.alloc (.cells #[.bool rd, .bool ok, .bool wk, .int .i64 v, .int .i64 mg, .int .i64 mc, .int .i64 mv] 51)).cell? ⟨u.heap.size, 1, none⟩ = some (.slice ob gs.length cq) := cell_of X3.out 1
  have y2 : (w3.alloc (.cells #[.bool rd, .bool ok, .bool wk, .int .i64 v, .int .i64 mg, .int .i64 mc, .int .i64 mv] 51)).cell? ⟨u.heap.size + 1, 2, none⟩ = some (.bool c.sd) := cell_of Y3.out 2
  have y3 : (w3.alloc (.cells #[.bool rd, .bool ok, .bool wk, .int .i64 v, .int .i64 mg, .int .i64 mc, .int .i64 mv] 51)).cell? ⟨u.heap.size + 1, 3, none⟩ = some (.int .i64 c.ch) := cell_of Y3.out 3
  have y4 : (w3.alloc (.cells #[.bool rd, .bool ok, .bool wk, .int .i64 v, .int .i64 mg, .int .i64 mc, .int .i64 mv] 51)).cell? ⟨u.heap.size + 1, 4, none⟩ = some (.int .i64 c.v) := cell_of Y3.out 4
  clear t3 r3 rz3 PT ba
  go_wp2_with fail
  generalize w3.alloc (.cells #[.bool rd, .bool ok, .bool wk, .int .i64 v, .int .i64 mg, .int .i64 mc, .int .i64 mv] 51) = U3 at X3 Y3 A3 T3 R3 x1 y2 y3 y4 ⊢
  generalize w3.heap.size = A at A3 NA ⊢
  refine (RT.out _ _ T3.out.r).mono ?_
  rintro r w4 ⟨rfl, rz4⟩
  obtain ⟨G4, t4, r4⟩ := T3.out.stepR rz4
  have bb := below_alloc w4 (.cells #[.bool rd, .bool ok, .bool wk, .int .i64 v, .int .i64 mg, .int .i64 mc, .int .i64 mv] 64)
  have A4 := hide (heap_below (r4.heap A3.out NA.out.1 NA.out.2) bb)
  have Q4 := hide (heap_new w4 (.cells #[.bool rd, .bool ok, .bool wk, .int .i64 v, .int .i64 mg, .int .i64 mc, .int .i64 mv] 64))
  have FIN : Hid (AcP w u (w4.alloc (.cells #[.bool rd, .bool ok, .bool wk, .int .i64 v, .int .i64 mg, .int .i64 mc, .int .i64 mv] 64)) oa bs Fs ob gs Gs (tryS s c)) := ⟨F3, G4, t4.below bb, (R3.out.trans r4).trans (Rest.below bb)⟩
  clear rz4 t4 r4 x1 y2 y3 y4 bb
  go_wp2_with fail
  generalize w4.alloc (.cells #[.bool rd, .bool ok, .bool wk, .int .i64 v, .int .i64 mg, .int .i64 mc, .int .i64 mv] 64) = W3 at A4 Q4 FIN ⊢
  generalize w4.heap.size = Q at Q4 ⊢
  have a0 : W3.cell? ⟨A, 0, none⟩ = some (.bool rd) := cell_of A4.out 0
  have c0 : W3.cell? ⟨Q, 0, none⟩ = some (.bool rd) := cell_of Q4.out 0
  have a1 : W3.cell? ⟨A, 1, none⟩ = some (.bool ok) := cell_of A4.out 1
  have c1 : W3.cell? ⟨Q, 1, none⟩ = some (.bool ok) := cell_of Q4.out 1
  have a2 : W3.cell? ⟨A, 2, none⟩ = some (.bool wk) := cell_of A4.out 2
  have c2 : W3.cell? ⟨Q, 2, none⟩ = some (.bool wk) := cell_of Q4.out 2
  have a3 : W3.cell? ⟨A, 3, none⟩ = some (.int .i64 v) := cell_of A4.out 3
  have c3 : W3.cell? ⟨Q, 3, none⟩ = some (.int .i64 v) := cell_of Q4.out 3
  have a4 : W3.cell? ⟨A, 4, none⟩ = some (.int .i64 mg) := cell_of A4.out 4
  have c4 : W3.cell? ⟨Q, 4, none⟩ = some (.int .i64 mg) := cell_of Q4.out 4
  have a5 : W3.cell? ⟨A, 5, none⟩ = some (.int .i64 mc) := cell_of A4.out 5
  have c5 : W3.cell? ⟨Q, 5, none⟩ = some (.int .i64 mc) := cell_of Q4.out 5
  have a6 : W3.cell? ⟨A, 6, none⟩ = some (.int .i64 mv) := cell_of A4.out 6
  have c6 : W3.cell? ⟨Q, 6, none⟩ = some (.int .i64 mv) := cell_of Q4.out 6
  (try simp only [List.append_eq, List.cons_append, List.nil_append])
  go_region_held3 (fun w' => w'.cell? ⟨A, 0, none⟩ = some (.bool rd) ∧ w'.cell? ⟨A, 1, none⟩ = some (.bool ok) ∧ w'.cell? ⟨A, 2, none⟩ = some (.bool wk) ∧ w'.cell? ⟨A, 3, none⟩ = some (.int .i64 v) ∧ w'.cell? ⟨A, 4, none⟩ = some (.int .i64 mg) ∧ w'.cell? ⟨A, 5, none⟩ = some (.int .i64 mc) ∧ w'.cell? ⟨A, 6, none⟩ = some (.int .i64 mv) ∧ w'.cell? ⟨Q, 0, none⟩ = some (.bool rd) ∧ w'.cell? ⟨Q, 1, none⟩ = some (.bool ok) ∧ w'.cell? ⟨Q, 2, none⟩ = some (.bool wk) ∧ w'.cell? ⟨Q, 3, none⟩ = some (.int .i64 v) ∧ w'.cell? ⟨Q, 4, none⟩ = some (.int .i64 mg) ∧ w'.cell? ⟨Q, 5, none⟩ = some (.int .i64 mc) ∧ w'.cell? ⟨Q, 6, none⟩ = some (.int .i64 mv))
    (first
      | go_keep
      | (go_split_ands
         refine ⟨?_, ?_, ?_, ?_, ?_, ?_, ?_, ?_, ?_, ?_, ?_, ?_, ?_, ?_⟩ <;> (refine cellB ?_ k4; assumption)))
    ((go_at_call 22; refine (RF.out _).mono ?_; rintro r w5 ⟨rfl, k4⟩))
  have FF : Hid (AcP w u w5 oa bs Fs ob gs Gs (tryS s c)) := by
    obtain ⟨F5, G5, t5, r5⟩ := FIN.out
    exact ⟨F5, G5, t5.below (btr (bdrew1 _) k4), r5.trans (Rest.below (btr (bdrew1 _) k4))⟩
  clear k4
  go_wp2_with fail
  go_ret
  exact ⟨rfl, FF.out⟩
theorem bs_at {s : List (Option Nat)} {c : Int} {B : Nat} (h : nmB s c = some B) : 0 ≤ c ∧ c < (s.length : Int) ∧ s[c.toNat]? = some (some B) := by
  unfold nmB at h
  split at h
  · cases h
  · cases e : s[c.toNat]? with
    | none => rw [e] at h; cases h
    | some o => rw [e] at h; exact ⟨by omega, by omega, congrArg some h⟩
end Fk
end Go.Proofs.Ytipimagajnocjaa
/- The laws' own acts(): one leaves. -/
namespace Go.Proofs.Ytipimagajnocjaa
open Go.ChangeShapes Go.WideShapes Go.ChangeAt Go.RowKit
namespace Fk
open Ba Pe _root_.Go.Proofs.Ytipimagajnocjaa.Pi Rp

/-- the channels of both, and two blocks of the law's -/
structure Hd (w u : World) (X Y : Nat) (ox oy : Obj) (oa : Option Addr) (bs : List (Option Nat)) (ob : Option Addr) (gs : List (Option Nat)) (Fs Gs : Nat → Nat → Prop) (z : World) (F G : Nat → Nat → Prop) (sp sr : List (Option St)) : Prop where
  t : Tw w z oa bs F ob gs G sp sr
  x : z.heap[X]? = some ox
  y : z.heap[Y]? = some oy
  nx : ¬ All F X ∧ ¬ All G X
  ny : ¬ All F Y ∧ ¬ All G Y
  r : Rest u z Fs Gs F G
theorem Hd.below {w u : World} {X Y : Nat} {ox oy : Obj} {oa : Option Addr} {bs : List (Option Nat)} {ob : Option Addr} {gs : List (Option Nat)} {Fs Gs : Nat → Nat → Prop} {z v : World} {F G : Nat → Nat → Prop} {sp sr : List (Option St)} (h : Hd w u X Y ox oy oa bs ob gs Fs Gs z F G sp sr) (hb : Below z.heap.size z v) : Hd w u X Y ox oy oa bs ob gs Fs Gs v F G sp sr :=
  ⟨h.t.below hb, heap_below h.x hb, heap_below h.y hb, h.nx, h.ny, h.r.trans (Rest.below hb)⟩
theorem Hd.stepP {w u : World} {X Y : Nat} {ox oy : Obj} {oa : Option Addr} {bs : List (Option Nat)} {ob : Option Addr} {gs : List (Option Nat)} {Fs Gs : Nat → Nat → Prop} {z v : World} {F G : Nat → Nat → Prop} {sp sr sp' : List (Option St)} (h : Hd w u X Y ox oy oa bs ob gs Fs Gs z F G sp sr) (rz : Rz Pp z v oa bs F sp') : ∃ F', Hd w u X Y ox oy oa bs ob gs Fs Gs v F' G sp' sr := by
  obtain ⟨F', t, r⟩ := h.t.stepP rz
  exact ⟨F', t, r.heap h.x h.nx.1 h.nx.2, r.heap h.y h.ny.1 h.ny.2, (r.2 X (heap_lt h.x) h.nx.1 h.nx.2).2, (r.2 Y (heap_lt h.y) h.ny.1 h.ny.2).2, h.r.trans r⟩
theorem Hd.stepR {w u : World} {X Y : Nat} {ox oy : Obj} {oa : Option Addr} {bs : List (Option Nat)} {ob : Option Addr} {gs : List (Option Nat)} {Fs Gs : Nat → Nat → Prop} {z v : World} {F G : Nat → Nat → Prop} {sp sr sr' : List (Option St)} (h : Hd w u X Y ox oy oa bs ob gs Fs Gs z F G sp sr) (rz : Rz Rr z v ob gs G sr') : ∃ G', Hd w u X Y ox oy oa bs ob gs Fs Gs v F G' sp sr' := by
  obtain ⟨G', t, r⟩ := h.t.stepR rz
  exact ⟨G', t, r.heap h.x h.nx.1 h.nx.2, r.heap h.y h.ny.1 h.ny.2, (r.2 X (heap_lt h.x) h.nx.1 h.nx.2).2, (r.2 Y (heap_lt h.y) h.ny.1 h.ny.2).2, h.r.trans r⟩
theorem Hd.start {w u : World} {oa : Option Addr} {bs : List (Option Nat)} {Fs : Nat → Nat → Prop} {ob : Option Addr} {gs : List (Option Nat)} {Gs : Nat → Nat → Prop} {s : List (Option St)} (h : Tw w u oa bs Fs ob gs Gs s s) (ox oy : Obj) : Hd w u u.heap.size (u.heap.size + 1) ox oy oa bs ob gs Fs Gs ((u.alloc ox).alloc oy) Fs Gs s s := by
  have BB := btr (below_alloc u ox) (below_alloc (u.alloc ox) oy)
  exact ⟨h.below BB, heap_below (heap_new u ox) (below_alloc _ _), heap_new2 _ _ _, new_not h (Nat.le_refl _), new_not h (Nat.le_succ _), Rest.below BB⟩
set_option maxRecDepth 100000 in
set_option maxHeartbeats 6400000 in
theorem acts3 (w u : World) (what g : Int) (c : Ca) (l : List Ca) (la : Option Addr) (lc : Nat) (oa : Option Addr) (bs : List (Option Nat)) (cp : Nat) (Fs : Nat → Nat → Prop) (ob : Option Addr) (gs : List (Option Nat)) (cq : Nat) (Gs : Nat → Nat → Prop) (s : List (Option St)) (h : Tw w u oa bs Fs ob gs Gs s s) (hb : bs.length ≤ 1000) (hw : what = 3) :
    Calls Try.prog 9 #[(.agg #[.slice oa bs.length cp, .slice ob gs.length cq]), (.agg #[.int .i64 what, .int .i64 g, .bool c.sd, .int .i64 c.ch, .int .i64 c.v, .slice la l.length lc])] u fun r w' => r = .returned (.bool true) ∧ AcP w u w' oa bs Fs ob gs Gs (leaveS g s) := by
  subst hw
  have hgb : gs.length ≤ 1000 := by
    rw [h.r.len, ← h.p.len]
    exact hb
  have H2 := hide (Hd.start h (.cells #[.slice oa bs.length cp, .slice ob gs.length cq] 29) (.cells #[.int .i64 3, .int .i64 g, .bool c.sd, .int .i64 c.ch, .int .i64 c.v, .slice la l.length lc] 35))
  have LP : Hid (∀ z G1 sr1, Hd w u u.heap.size (u.heap.size + 1) (.cells #[.slice oa bs.length cp, .slice ob gs.length cq] 29) (.cells #[.int .i64 3, .int .i64 g, .bool c.sd, .int .i64 c.ch, .int .i64 c.v, .slice la l.length lc] 35) oa bs ob gs Fs Gs z Fs G1 s sr1 → Calls Try.prog 14 #[.int .i64 g, .slice oa bs.length cp] z fun r w' => r = .returned (.int .i64 (leaveN g s)) ∧ ∃ F1, Hd w u u.heap.size (u.heap.size + 1) (.cells #[.slice oa bs.length cp, .slice ob gs.length cq] 29) (.cells #[.int .i64 3, .int .i64 g, .bool c.sd, .int .i64 c.ch, .int .i64 c.v, .slice la l.length lc] 35) oa bs ob gs Fs Gs w' F1 G1 (leaveS g s) sr1) := by
    intro z G1 sr1 hz
    refine (leave_any g oa bs cp Fs s z hz.t.p hb).mono ?_
    rintro r v ⟨e, rz⟩
    exact ⟨e, hz.stepP rz⟩
  have LR : Hid (∀ z F1 sp1, Hd w u u.heap.size (u.heap.size + 1) (.cells #[.slice oa bs.length cp, .slice ob gs.length cq] 29) (.cells #[.int .i64 3, .int .i64 g, .bool c.sd, .int .i64 c.ch, .int .i64 c.v, .slice la l.length lc] 35) oa bs ob gs Fs Gs z F1 Gs sp1 s → Calls Try.prog 15 #[.int .i64 g, .slice ob gs.length cq] z fun r w' => r = .returned (.int .i64 (leaveN g s)) ∧ ∃ G1, Hd w u u.heap.size (u.heap.size + 1) (.cells #[.slice oa bs.length cp, .slice ob gs.length cq] 29) (.cells #[.int .i64 3, .int .i64 g, .bool c.sd, .int .i64 c.ch, .int .i64 c.v, .slice la l.length lc] 35) oa bs ob gs Fs Gs w' F1 G1 sp1 (leaveS g s)) := by
    intro z F1 sp1 hz
    refine (rleave_any g ob gs cq Gs s z hz.t.r hgb).mono ?_
    rintro r v ⟨e, rz⟩
    exact ⟨e, hz.stepR rz⟩
  generalize leaveN g s = nn at LP LR
  clear h
  go_enter Try.func9, Try.ntmps9
  go_wp2_with fail
  generalize (u.alloc (.cells #[.slice oa bs.length cp, .slice ob gs.length cq] 29)).alloc (.cells #[.int .i64 3, .int .i64 g, .bool c.sd, .int .i64 c.ch, .int .i64 c.v, .slice la l.length lc] 35) = U2 at H2 ⊢
  generalize hX : u.heap.size = X at H2 LP LR ⊢
  have x0 : U2.cell? ⟨X, 0, none⟩ = some (.slice oa bs.length cp) := cell_of H2.out.x 0
  have x1 : U2.cell? ⟨X, 1, none⟩ = some (.slice ob gs.length cq) := cell_of H2.out.x 1
  have y1 : U2.cell? ⟨X + 1, 1, none⟩ = some (.int .i64 g) := cell_of H2.out.y 1
  have H3 := hide (H2.out.below (bdrew1 _))
  clear H2 hX
  go_region_held3 (fun w' => w'.cell? ⟨X, 0, none⟩ = some (.slice oa bs.length cp) ∧ w'.cell? ⟨X, 1, none⟩ = some (.slice ob gs.length cq) ∧ w'.cell? ⟨X + 1, 1, none⟩ = some (.int .i64 g))
    (first
      | go_keep
      | exact ⟨cell_of tP.x 0, cell_of tP.x 1, cell_of tP.y 1⟩
      | exact ⟨cell_of tR.x 0, cell_of tR.x 1, cell_of tR.y 1⟩)
    (first
      | (go_at_call 14; (first | refine (LP.out _ _ _ H3.out).mono ?_ | refine (LP.out _ _ _ tR).mono ?_); rintro r z1 ⟨rfl, F1, tP⟩)
      | (go_at_call 15; (first | refine (LR.out _ _ _ H3.out).mono ?_ | refine (LR.out _ _ _ tP).mono ?_); rintro r z2 ⟨rfl, G1, tR⟩))
  have FIN : Hid (AcP w u z2 oa bs Fs ob gs Gs (leaveS g s)) := ⟨_, _, tR.t, tR.r⟩
  clear tP tR LP LR H3 x0 x1 y1
  go_wp2_with fail
  go_ret
  exact ⟨ret_bool (by simp), FIN.out⟩
end Fk
end Go.Proofs.Ytipimagajnocjaa
/- The laws' own acts(): one waits, one closes. -/
namespace Go.Proofs.Ytipimagajnocjaa
open Go.ChangeShapes Go.WideShapes Go.ChangeAt Go.RowKit
namespace Fk
open Ba Pe _root_.Go.Proofs.Ytipimagajnocjaa.Pi Rp

/-- a name is no channel's, or it is both's -/
theorem Tw.nm {w u : World} {oa : Option Addr} {bs : List (Option Nat)} {Fs : Nat → Nat → Prop} {ob : Option Addr} {gs : List (Option Nat)} {Gs : Nat → Nat → Prop} {s : List (Option St)} (h : Tw w u oa bs Fs ob gs Gs s s) (c : Int) : (nmB gs c = none ∧ nmB s c = none) ∨ ∃ (n B G : Nat) (st : St), c = (n : Int) ∧ n < bs.length ∧ n < gs.length ∧ bs[n]? = some (some B) ∧ gs[n]? = some (some G) ∧ nmB gs c = some G ∧ nmB s c = some st ∧ s[n]? = some (some st) := by
  rcases h.r.nm c with ⟨q1, q2⟩ | ⟨G, st, q1, q2, q3, q4, q5, q6, q7⟩
  · exact .inl ⟨q1, q2⟩
  · rcases h.p.nm c with ⟨p1, p2⟩ | ⟨B, st', p1, p2, p3, p4, p5, p6, p7⟩
    · rw [p2] at q2
      cases q2
    · refine .inr ⟨c.toNat, B, G, st, by omega, p4, q4, p5, q5, q1, q2, q6⟩
set_option maxRecDepth 100000 in
set_option maxHeartbeats 6400000 in
theorem acts4 (w u : World) (what g : Int) (sd : Bool) (ch v : Int) (l : List Ca) (la : Option Addr) (lc : Nat) (oa : Option Addr) (bs : List (Option Nat)) (cp : Nat) (Fs : Nat → Nat → Prop) (ob : Option Addr) (gs : List (Option Nat)) (cq : Nat) (Gs : Nat → Nat → Prop) (s : List (Option St)) (h : Tw w u oa bs Fs ob gs Gs s s) (hw : what = 4) :
    Calls Try.prog 9 #[(.agg #[.slice oa bs.length cp, .slice ob gs.length cq]), .agg #[.int .i64 what, .int .i64 g, .bool sd, .int .i64 ch, .int .i64 v, .slice la l.length lc]] u fun r w' => r = .returned (.bool true) ∧ AcP w u w' oa bs Fs ob gs Gs (match nmB s ch with | none => s | some st => s.set ch.toNat (some (closeS st))) := by
  subst hw
  rcases h.nm ch with ⟨q1, q2⟩ | ⟨n, B, G, st, rfl, hn, hn', hB, hG, q1, q2, hst⟩
  · have H2 := hide (Hd.start h (.cells #[.slice oa bs.length cp, .slice ob gs.length cq] 29) (.cells #[.int .i64 4, .int .i64 g, .bool sd, .int .i64 ch, .int .i64 v, .slice la l.length lc] 35))
    have NM := hide (rnamed_any ob gs ch cq _ H2.out.t.r.row)
    rw [q1] at NM
    simp only [pt, Option.map_none] at NM
    rw [q2]
    simp only
    clear q1 q2 h
    go_enter Try.func9, Try.ntmps9
    go_wp2_with fail
    refine NM.out.mono ?_
    rintro r w3 ⟨rfl, rfl⟩
    have FIN : Hid (AcP w u ((u.alloc (.cells #[.slice oa bs.length cp, .slice ob gs.length cq] 29)).alloc (.cells #[.int .i64 4, .int .i64 g, .bool sd, .int .i64 ch, .int .i64 v, .slice la l.length lc] 35)) oa bs Fs ob gs Gs s) := ⟨_, _, H2.out.t, H2.out.r⟩
    go_wp2_with fail
    go_ret
    exact ⟨rfl, FIN.out⟩
  · have H2 : Hid (Hd w u u.heap.size (u.heap.size + 1) (.cells #[.slice oa bs.length cp, .slice ob gs.length cq] 29) (.cells #[.int .i64 4, .int .i64 g, .bool sd, .int .i64 (n : Int), .int .i64 v, .slice la l.length lc] 35) oa bs ob gs Fs Gs ((u.alloc (.cells #[.slice oa bs.length cp, .slice ob gs.length cq] 29)).alloc (.cells #[.int .i64 4, .int .i64 g, .bool sd, .int .i64 (n : Int), .int .i64 v, .slice la l.length lc] 35)) Fs Gs s s) := Hd.start h (.cells #[.slice oa bs.length cp, .slice ob gs.length cq] 29) (.cells #[.int .i64 4, .int .i64 g, .bool sd, .int .i64 (n : Int), .int .i64 v, .slice la l.length lc] 35)
    have NM := hide (rnamed_any ob gs (n : Int) cq _ H2.out.t.r.row)
    rw [q1] at NM
    simp only [pt, Option.map_some] at NM
    rw [q2]
    simp only [Int.toNat_natCast]
    have CP : Hid (∀ z G1 sr1, Hd w u u.heap.size (u.heap.size + 1) (.cells #[.slice oa bs.length cp, .slice ob gs.length cq] 29) (.cells #[.int .i64 4, .int .i64 g, .bool sd, .int .i64 (n : Int), .int .i64 v, .slice la l.length lc] 35) oa bs ob gs Fs Gs z Fs G1 s sr1 → Calls Try.prog 27 #[.pointer (some ⟨B, 0, none⟩)] z fun r w' => ∃ o1 n1 c1 o2 n2 c2, r = .returned (.tuple #[.slice o1 n1 c1, .slice o2 n2 c2, .int .i64 (closeE st)]) ∧ ∃ F1, Hd w u u.heap.size (u.heap.size + 1) (.cells #[.slice oa bs.length cp, .slice ob gs.length cq] 29) (.cells #[.int .i64 4, .int .i64 g, .bool sd, .int .i64 (n : Int), .int .i64 v, .slice la l.length lc] 35) oa bs ob gs Fs Gs w' F1 G1 (s.set n (some (closeS st))) sr1) := by
      intro z G1 sr1 hz
      obtain ⟨st', e1, pp⟩ := hz.t.p.one n B hB
      rw [hst] at e1
      cases e1
      refine (close_any B _ st z pp).mono ?_
      rintro r v ⟨o1, c1, o2, c2, rfl, -, k, F', nw, q⟩
      exact ⟨o1, _, c1, o2, _, c2, rfl, hz.stepP (Rz.step frP hz.t.p (Below.refl _ _) hB k nw q)⟩
    have CR : Hid (∀ z F1 sp1, Hd w u u.heap.size (u.heap.size + 1) (.cells #[.slice oa bs.length cp, .slice ob gs.length cq] 29) (.cells #[.int .i64 4, .int .i64 g, .bool sd, .int .i64 (n : Int), .int .i64 v, .slice la l.length lc] 35) oa bs ob gs Fs Gs z F1 Gs sp1 s → Calls Try.prog 28 #[.pointer (some ⟨G, 0, none⟩)] z fun r w' => ∃ o1 n1 c1 o2 n2 c2, r = .returned (.tuple #[.slice o1 n1 c1, .slice o2 n2 c2, .int .i64 (closeE st)]) ∧ ∃ G1, Hd w u u.heap.size (u.heap.size + 1) (.cells #[.slice oa bs.length cp, .slice ob gs.length cq] 29) (.cells #[.int .i64 4, .int .i64 g, .bool sd, .int .i64 (n : Int), .int .i64 v, .slice la l.length lc] 35) oa bs ob gs Fs Gs w' F1 G1 sp1 (s.set n (some (closeS st)))) := by
      intro z F1 sp1 hz
      obtain ⟨st', e1, pp⟩ := hz.t.r.one n G hG
      rw [hst] at e1
      cases e1
      refine (rclose_any G _ st z pp).mono ?_
      rintro r v ⟨o1, c1, o2, c2, rfl, -, k, F', nw, q⟩
      exact ⟨o1, _, c1, o2, _, c2, rfl, hz.stepR (Rz.step frR hz.t.r (Below.refl _ _) hG k nw q)⟩
    generalize closeE st = ee at CP CR
    have hn2 : (n : Int) < (bs.length : Int) := by omega
    have ROW := hide (H2.out.t.p.row n (some B) hB)
    clear q1 q2 h hB hG hst
    go_enter Try.func9, Try.ntmps9
    go_wp2_with fail
    generalize (u.alloc (.cells #[.slice oa bs.length cp, .slice ob gs.length cq] 29)).alloc (.cells #[.int .i64 4, .int .i64 g, .bool sd, .int .i64 (n : Int), .int .i64 v, .slice la l.length lc] 35) = U2 at H2 NM ROW ⊢
    refine NM.out.mono ?_
    rintro r w3 ⟨rfl, rfl⟩
    obtain ⟨b, off, eo, hc⟩ := ROW.out
    subst eo
    simp only [pt, Option.map_some] at hc
    have x0 : w3.cell? ⟨u.heap.size, 0, none⟩ = some (.slice (some ⟨b, off, none⟩) bs.length cp) := cell_of H2.out.x 0
    have y3 : w3.cell? ⟨u.heap.size + 1, 3, none⟩ = some (.int .i64 (n : Int)) := cell_of H2.out.y 3
    clear NM ROW
    go_wp2_with fail
    refine (CP.out _ _ _ H2.out).mono ?_
    rintro r z1 ⟨o1, n1, c1, o2, n2, c2, rfl, F1, tP⟩
    have TP := hide tP
    clear tP x0 y3 hc
    go_wp2_with fail
    refine (CR.out _ _ _ TP.out).mono ?_
    rintro r z2 ⟨o3, n3, c3, o4, n4, c4, rfl, G1, tR⟩
    have FIN : Hid (AcP w u z2 (some ⟨b, off, none⟩) bs Fs ob gs Gs (s.set n (some (closeS st)))) := ⟨_, _, tR.t, tR.r⟩
    clear tR TP CP CR
    go_wp2_with fail
    go_ret
    exact ⟨ret_bool (by simp), FIN.out⟩
end Fk
end Go.Proofs.Ytipimagajnocjaa
/- The laws' own acts(): one waits. -/
namespace Go.Proofs.Ytipimagajnocjaa
open Go.ChangeShapes Go.WideShapes Go.ChangeAt Go.RowKit
namespace Fk
open Ba Pe _root_.Go.Proofs.Ytipimagajnocjaa.Pi Rp

/-- the row's cell by a name -/
def RC (w : World) (oa : Option Addr) (n B : Nat) : Prop := ∀ b off, oa = some ⟨b, off, none⟩ → w.cell? ⟨b, off + n, none⟩ = some (.pointer (some ⟨B, 0, none⟩))
theorem RC.of {w : World} {oa : Option Addr} {bs : List (Option Nat)} (h : PR w oa bs) {n B : Nat} (hB : bs[n]? = some (some B)) : RC w oa n B := by
  intro b off e
  obtain ⟨b', off', e', hc⟩ := h n _ hB
  rw [e] at e'
  cases e'
  exact hc
set_option maxRecDepth 100000 in
set_option maxHeartbeats 6400000 in
theorem acts1 (w u : World) (what g : Int) (sd : Bool) (ch v : Int) (l : List Ca) (la : Option Addr) (lc : Nat) (oa : Option Addr) (bs : List (Option Nat)) (cp : Nat) (Fs : Nat → Nat → Prop) (ob : Option Addr) (gs : List (Option Nat)) (cq : Nat) (Gs : Nat → Nat → Prop) (s : List (Option St)) (h : Tw w u oa bs Fs ob gs Gs s s) (hw : what = 1) :
    Calls Try.prog 9 #[(.agg #[.slice oa bs.length cp, .slice ob gs.length cq]), .agg #[.int .i64 what, .int .i64 g, .bool sd, .int .i64 ch, .int .i64 v, .slice la l.length lc]] u fun r w' => r = .returned (.bool true) ∧ AcP w u w' oa bs Fs ob gs Gs (match nmB s ch with | none => s | some st => s.set ch.toNat (some (waitS st sd ⟨g, -1, v⟩))) := by
  subst hw
  rcases h.nm ch with ⟨q1, q2⟩ | ⟨n, B, G, st, rfl, hn, hn', hB, hG, q1, q2, hst⟩
  · have H2 := hide (Hd.start h (.cells #[.slice oa bs.length cp, .slice ob gs.length cq] 29) (.cells #[.int .i64 1, .int .i64 g, .bool sd, .int .i64 ch, .int .i64 v, .slice la l.length lc] 35))
    have NM := hide (rnamed_any ob gs ch cq _ H2.out.t.r.row)
    rw [q1] at NM
    simp only [pt, Option.map_none] at NM
    rw [q2]
    simp only
    clear q1 q2 h
    go_enter Try.func9, Try.ntmps9
    go_wp2_with fail
    refine NM.out.mono ?_
    rintro r w3 ⟨rfl, rfl⟩
    have FIN : Hid (AcP w u ((u.alloc (.cells #[.slice oa bs.length cp, .slice ob gs.length cq] 29)).alloc (.cells #[.int .i64 1, .int .i64 g, .bool sd, .int .i64 ch, .int .i64 v, .slice la l.length lc] 35)) oa bs Fs ob gs Gs s) := ⟨_, _, H2.out.t, H2.out.r⟩
    go_wp2_with fail
    go_ret
    exact ⟨rfl, FIN.out⟩
  · have H2 : Hid (Hd w u u.heap.size (u.heap.size + 1) (.cells #[.slice oa bs.length cp, .slice ob gs.length cq] 29) (.cells #[.int .i64 1, .int .i64 g, .bool sd, .int .i64 (n : Int), .int .i64 v, .slice la l.length lc] 35) oa bs ob gs Fs Gs ((u.alloc (.cells #[.slice oa bs.length cp, .slice ob gs.length cq] 29)).alloc (.cells #[.int .i64 1, .int .i64 g, .bool sd, .int .i64 (n : Int), .int .i64 v, .slice la l.length lc] 35)) Fs Gs s s) := Hd.start h (.cells #[.slice oa bs.length cp, .slice ob gs.length cq] 29) (.cells #[.int .i64 1, .int .i64 g, .bool sd, .int .i64 (n : Int), .int .i64 v, .slice la l.length lc] 35)
    have NM := hide (rnamed_any ob gs (n : Int) cq _ H2.out.t.r.row)
    rw [q1] at NM
    simp only [pt, Option.map_some] at NM
    rw [q2]
    simp only [Int.toNat_natCast]
    have CP : Hid (∀ z G1 sr1, Hd w u u.heap.size (u.heap.size + 1) (.cells #[.slice oa bs.length cp, .slice ob gs.length cq] 29) (.cells #[.int .i64 1, .int .i64 g, .bool sd, .int .i64 (n : Int), .int .i64 v, .slice la l.length lc] 35) oa bs ob gs Fs Gs z Fs G1 s sr1 → Calls Try.prog 24 #[.pointer (some ⟨B, 0, none⟩), .bool sd, wv ⟨g, -1, v⟩] z fun r w' => r = .returned (.int .i64 (waitE st sd ⟨g, -1, v⟩)) ∧ ∃ F1, Hd w u u.heap.size (u.heap.size + 1) (.cells #[.slice oa bs.length cp, .slice ob gs.length cq] 29) (.cells #[.int .i64 1, .int .i64 g, .bool sd, .int .i64 (n : Int), .int .i64 v, .slice la l.length lc] 35) oa bs ob gs Fs Gs w' F1 G1 (s.set n (some (waitS st sd ⟨g, -1, v⟩))) sr1 ∧ RC w' oa n B) := by
      intro z G1 sr1 hz
      obtain ⟨st', e1, pp⟩ := hz.t.p.one n B hB
      rw [hst] at e1
      cases e1
      refine (wait_any B _ st sd _ z pp).mono ?_
      rintro r v ⟨rfl, k, F', nw, q⟩
      obtain ⟨F1, q1⟩ := hz.stepP (Rz.step frP hz.t.p (Below.refl _ _) hB k nw q)
      exact ⟨rfl, F1, q1, RC.of q1.t.p.row hB⟩
    have CR : Hid (∀ z F1 sp1, Hd w u u.heap.size (u.heap.size + 1) (.cells #[.slice oa bs.length cp, .slice ob gs.length cq] 29) (.cells #[.int .i64 1, .int .i64 g, .bool sd, .int .i64 (n : Int), .int .i64 v, .slice la l.length lc] 35) oa bs ob gs Fs Gs z F1 Gs sp1 s → Calls Try.prog 25 #[.pointer (some ⟨G, 0, none⟩), .bool sd, wv ⟨g, -1, v⟩] z fun r w' => r = .returned (.int .i64 (waitE st sd ⟨g, -1, v⟩)) ∧ ∃ G1, Hd w u u.heap.size (u.heap.size + 1) (.cells #[.slice oa bs.length cp, .slice ob gs.length cq] 29) (.cells #[.int .i64 1, .int .i64 g, .bool sd, .int .i64 (n : Int), .int .i64 v, .slice la l.length lc] 35) oa bs ob gs Fs Gs w' F1 G1 sp1 (s.set n (some (waitS st sd ⟨g, -1, v⟩))) ∧ RC w' oa n B) := by
      intro z F1 sp1 hz
      obtain ⟨st', e1, pp⟩ := hz.t.r.one n G hG
      rw [hst] at e1
      cases e1
      refine (rwait_any G _ st sd _ z pp).mono ?_
      rintro r v ⟨rfl, k, F', nw, q⟩
      obtain ⟨G1, q1⟩ := hz.stepR (Rz.step frR hz.t.r (Below.refl _ _) hG k nw q)
      exact ⟨rfl, G1, q1, RC.of q1.t.p.row hB⟩
    generalize waitE st sd ⟨g, -1, v⟩ = ee at CP CR
    unfold wv at CP CR
    have hn2 : (n : Int) < (bs.length : Int) := by omega
    have hn0 : (0 : Int) ≤ (n : Int) := by omega
    have ROW := hide (H2.out.t.p.row n (some B) hB)
    have NR : Hid (∀ a, oa = some a → ∀ i, ¬ Fs i a.block) := H2.out.t.p.nr
    clear q1 q2 h hB hG hst
    go_enter Try.func9, Try.ntmps9
    go_wp2_with fail
    generalize (u.alloc (.cells #[.slice oa bs.length cp, .slice ob gs.length cq] 29)).alloc (.cells #[.int .i64 1, .int .i64 g, .bool sd, .int .i64 (n : Int), .int .i64 v, .slice la l.length lc] 35) = U2 at H2 NM ROW ⊢
    refine NM.out.mono ?_
    rintro r w3 ⟨rfl, rfl⟩
    obtain ⟨b, off, eo, hc⟩ := ROW.out
    subst eo
    simp only [pt, Option.map_some] at hc
    have x0 : w3.cell? ⟨u.heap.size, 0, none⟩ = some (.slice (some ⟨b, off, none⟩) bs.length cp) := cell_of H2.out.x 0
    have y1 : w3.cell? ⟨u.heap.size + 1, 1, none⟩ = some (.int .i64 g) := cell_of H2.out.y 1
    have y2 : w3.cell? ⟨u.heap.size + 1, 2, none⟩ = some (.bool sd) := cell_of H2.out.y 2
    have y3 : w3.cell? ⟨u.heap.size + 1, 3, none⟩ = some (.int .i64 (n : Int)) := cell_of H2.out.y 3
    have y4 : w3.cell? ⟨u.heap.size + 1, 4, none⟩ = some (.int .i64 v) := cell_of H2.out.y 4
    have H3 := hide (H2.out.below (bdrew1 _))
    clear NM ROW
    go_wp2_with fail
    go_region_held3 (fun w' => w'.cell? ⟨u.heap.size, 0, none⟩ = some (.slice (some ⟨b, off, none⟩) bs.length cp) ∧ w'.cell? ⟨u.heap.size + 1, 1, none⟩ = some (.int .i64 g) ∧ w'.cell? ⟨u.heap.size + 1, 2, none⟩ = some (.bool sd) ∧ w'.cell? ⟨u.heap.size + 1, 3, none⟩ = some (.int .i64 (n : Int)) ∧ w'.cell? ⟨u.heap.size + 1, 4, none⟩ = some (.int .i64 v) ∧ w'.cell? ⟨b, off + n, none⟩ = some (.pointer (some ⟨B, 0, none⟩)))
      (first
        | go_keep
        | exact ⟨cell_of tR.x 0, cell_of tR.y 1, cell_of tR.y 2, cell_of tR.y 3, cell_of tR.y 4, rR _ _ rfl⟩
        | exact ⟨cell_of tP.x 0, cell_of tP.y 1, cell_of tP.y 2, cell_of tP.y 3, cell_of tP.y 4, rP _ _ rfl⟩)
      (first
        | (go_at_call 24; refine (CP.out _ _ _ H3.out).mono ?_; rintro r z1 ⟨rfl, F1, tP, rP⟩)
        | (go_at_call 25; refine (CR.out _ _ _ tP).mono ?_; rintro r z2 ⟨rfl, G1, tR, rR⟩))
    have FIN : Hid (AcP w u z2 (some ⟨b, off, none⟩) bs Fs ob gs Gs (s.set n (some (waitS st sd ⟨g, -1, v⟩)))) := ⟨_, _, tR.t, tR.r⟩
    clear tR tP CP CR rP rR
    go_wp2_with fail
    go_ret
    exact ⟨ret_bool (by simp), FIN.out⟩
end Fk
end Go.Proofs.Ytipimagajnocjaa
