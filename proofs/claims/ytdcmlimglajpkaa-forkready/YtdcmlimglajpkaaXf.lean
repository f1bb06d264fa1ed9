/- Package pipe: out, over this seat's program. -/
import Derived.Test.YtdcmlimglajpkaaXe
namespace Go.Proofs.Ytdcmlimglajpkaa
open Go.ChangeShapes Go.WideShapes Go.ChangeAt Go.RowKit
namespace Pi
open Ba Pe

theorem out_pop (B : Nat) (F : Nat → Prop) (st : St) (y : Wt) (x : Int) (b : List Int) (w : World) (h : Pp w B F st) (hb : st.buf = x :: b) :
    Calls Try.prog 62 #[.pointer (some ⟨B, 0, none⟩), wv y, .bool false] w fun r w' => r = .returned (.int .i64 x) ∧ KF F w w' ∧ Pp w' B F { st with buf := b } := by
  obtain ⟨R, S, Q, FS, FQ, h⟩ := h
  have BA := hide (below_alloc w (.cells #[.int .i64 y.g, .int .i64 y.c, .int .i64 y.v] 49))
  have P1 := hide (h.below BA.out)
  have y0 : (w.alloc (.cells #[.int .i64 y.g, .int .i64 y.c, .int .i64 y.v] 49)).cell? ⟨B, 0, none⟩ = some (.pointer (some ⟨R, 0, none⟩)) := cell_of P1.out.hp 0
  have PO := hide (Rn.pop_some R st.size x b _ (by have := P1.out.rg; rw [hb] at this; exact this))
  clear h hb
  unfold wv
  go_enter Try.func62, Try.ntmps62
  go_wp2_with fail
  refine PO.out.mono ?_
  rintro r w2 ⟨rfl, r2, k2⟩
  have P2 := hide (P1.out.ring k2 r2)
  have K2 := hide ((KF.of (F := F) BA.out).trans (KF.kb (F := F) k2 P1.out.fr) (Nw.refl _ _))
  clear r2 k2
  go_wp2_with fail
  go_ret
  exact ⟨rfl, K2.out, P2.out.pp⟩
set_option maxHeartbeats 1600000 in
theorem out_turn (B : Nat) (F : Nat → Prop) (st : St) (y : Wt) (x : Int) (b : List Int) (w : World) (h : Pp w B F st) (hb : st.buf = x :: b) :
    Calls Try.prog 62 #[.pointer (some ⟨B, 0, none⟩), wv y, .bool true] w fun r w' => r = .returned (.int .i64 x) ∧ KF F w w' ∧ Pp w' B F { st with buf := b ++ [y.v] } := by
  obtain ⟨R, S, Q, FS, FQ, h⟩ := h
  have BA := hide (below_alloc w (.cells #[.int .i64 y.g, .int .i64 y.c, .int .i64 y.v] 49))
  have P1 := hide (h.below BA.out)
  have hB : B < w.heap.size := h.bd B h.fb
  have y0 : (w.alloc (.cells #[.int .i64 y.g, .int .i64 y.c, .int .i64 y.v] 49)).cell? ⟨B, 0, none⟩ = some (.pointer (some ⟨R, 0, none⟩)) := cell_of P1.out.hp 0
  have TN := hide (Rn.turn_any R st.size (x :: b) y.v (w.alloc (.cells #[.int .i64 y.g, .int .i64 y.c, .int .i64 y.v] 49)).drew (by have := P1.out.rg.below (bdrew1 _); rw [hb] at this; exact this))
  clear h hb
  unfold wv
  go_enter Try.func62, Try.ntmps62
  go_wp2_with fail
  go_region_with (go_at_call 72; refine TN.out.mono ?_; rintro r w2 ⟨rfl, r2, k2⟩)
  all_goals
    have P2 := hide ((P1.out.below (bdrew1 _)).ring k2 r2)
    have K2 := hide ((KF.of (F := F) (btr BA.out (bdrew1 _))).trans (KF.kb (F := F) k2 P1.out.fr) (Nw.refl _ _))
    clear r2 k2
    simp only [Rn.oe, List.length_cons, Nat.add_one_ne_zero, if_false, show nth (x :: b) 0 = x from rfl]
    go_wp2_with fail
    go_ret
    exact ⟨rfl, K2.out, P2.out.pp⟩
set_option maxHeartbeats 1600000 in
theorem out_none (B : Nat) (F : Nat → Prop) (st : St) (y : Wt) (w : World) (h : Pp w B F st) (hb : st.buf = []) :
    Calls Try.prog 62 #[.pointer (some ⟨B, 0, none⟩), wv y, .bool true] w fun r w' => r = .returned (.int .i64 y.v) ∧ KF F w w' ∧ Pp w' B F st := by
  obtain ⟨R, S, Q, FS, FQ, h⟩ := h
  have BA := hide (below_alloc w (.cells #[.int .i64 y.g, .int .i64 y.c, .int .i64 y.v] 49))
  have P1 := hide (h.below BA.out)
  have hB : B < w.heap.size := h.bd B h.fb
  have y0 : (w.alloc (.cells #[.int .i64 y.g, .int .i64 y.c, .int .i64 y.v] 49)).cell? ⟨B, 0, none⟩ = some (.pointer (some ⟨R, 0, none⟩)) := cell_of P1.out.hp 0
  have TN := hide (Rn.turn_any R st.size [] y.v (w.alloc (.cells #[.int .i64 y.g, .int .i64 y.c, .int .i64 y.v] 49)).drew (by have := P1.out.rg.below (bdrew1 _); rw [hb] at this; exact this))
  have HB := hide hb
  have NR : Hid (w.heap.size ≠ R) := by have := h.bd R h.fr; show _ ≠ _; omega
  have M1 := hide (heap_new w (.cells #[.int .i64 y.g, .int .i64 y.c, .int .i64 y.v] 49))
  clear h hb
  unfold wv
  go_enter Try.func62, Try.ntmps62
  go_wp2_with fail
  go_region_with (go_at_call 72; refine TN.out.mono ?_; rintro r w2 ⟨rfl, r2, k2⟩; have m2 := (cell_of (k2.heap (heap_below M1.out (bdrew1 _)) NR.out) 2).trans (show _ = some (.int .i64 y.v) from rfl))
  all_goals
    have P2 : Hid (Pp w2 B F st) := by
      have := ((P1.out.below (bdrew1 _)).ring k2 r2).pp
      rw [show Rn.tl [] y.v = [] from rfl, ← HB.out] at this
      exact this
    have K2 := hide ((KF.of (F := F) (btr BA.out (bdrew1 _))).trans (KF.kb (F := F) k2 P1.out.fr) (Nw.refl _ _))
    clear r2 k2
    simp only [Rn.oe, List.length_nil, if_true]
    go_wp2_with fail
    go_ret
    exact ⟨rfl, K2.out, P2.out⟩
end Pi
end Go.Proofs.Ytdcmlimglajpkaa
