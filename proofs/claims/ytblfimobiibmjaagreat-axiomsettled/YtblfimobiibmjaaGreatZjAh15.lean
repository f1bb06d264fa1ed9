import Derived.Test.YtblfimobiibmjaaGreatZjAh14
namespace Go.Proofs.YtblfimobiibmjaaGreat
open Go.ChangeShapes Go.WideShapes Go.ChangeAt Go.RowKit
namespace Rlo
open Ba Lo
section
variable {w w2 : World} {col : Nat → Nat} {L N C B : Nat} {FB : Nat → Prop} {q : Hd} {pa : Option Addr} {pc : Nat} {oa : Option Addr} {oc : Nat} {bs : List (Option Nat)} {Fs : Nat → Nat → Prop} {cs : List (Option St)} {ta : Option Addr} {tc : Nat} {s : Lm}
end
set_option maxRecDepth 100000 in
set_option maxHeartbeats 1600000 in
theorem note_x {col : Nat → Nat} {L N C B : Nat} {FB : Nat → Prop} {q : Hd} {pa : Option Addr} {pc : Nat} {oa : Option Addr} {oc : Nat} {bs : List (Option Nat)} {Fs : Nat → Nat → Prop} {cs : List (Option St)} {ta : Option Addr} {tc : Nat} {s : Lm} (e : Ev) (w : World) (h : RX w col L N C B FB q pa pc oa oc bs Fs cs ta tc s) (ht : s.tr.length ≤ 1000000) :
 Calls Tryz.prog 104 #[.pointer (some ⟨L, 0, none⟩), En.evv e] w fun r w' => r = .returned (.tuple #[]) ∧ ∃ ta' tc' col', RX w' col' L N C B FB q pa pc oa oc bs Fs cs ta' tc' (tellS s e) ∧ Tq col col' w w' := by
 unfold En.evv En.evc
 obtain ⟨i0, hi, hz0, hz1, hz2⟩ : ∃ i0, Tryz.prog.info? 50 = some i0 ∧ i0.zero = some (.agg #[.int .i64 0, .int .i64 0, .int .i64 0, .int .i64 0, .int .i64 0, .int .i64 0, .bool false, .bool false]) ∧ i0.size = 8 ∧ i0.bytes = 56 := by
  cases hi : Tryz.prog.info? 50 with
  | none => have := info_ev; rw [hi] at this; cases this
  | some i0 =>
    have hx := info_ev
    rw [hi] at hx
    simp at hx
    exact ⟨i0, rfl, hx⟩
 have INF := hide (And.intro hi (And.intro hz0 (And.intro hz1 hz2)))
 have H := hide h
 have y0 : w.cell? ⟨L, 16, none⟩ = some (.slice ta s.tr.length tc) := cell_of h.hp 16
 have f0 : w.frozen? ⟨L, 16, none⟩ = false := frozen_of h.hp 16
 have hL := h.lt
 clear h hi hz0 hz1 hz2
 have BD := hide (btr (btr (below_alloc w (.cells #[.int .i64 e.k, .int .i64 e.g, .int .i64 e.c, .int .i64 e.a, .int .i64 e.v, .int .i64 e.m, .bool e.s, .bool e.o] 50)) (below_alloc _ (.cells #[.int .i64 e.k, .int .i64 e.g, .int .i64 e.c, .int .i64 e.a, .int .i64 e.v, .int .i64 e.m, .bool e.s, .bool e.o] 50))) (bdrew1 _))
 have ow1 : ((w.alloc (.cells #[.int .i64 e.k, .int .i64 e.g, .int .i64 e.c, .int .i64 e.a, .int .i64 e.v, .int .i64 e.m, .bool e.s, .bool e.o] 50)).alloc (.cells #[.int .i64 e.k, .int .i64 e.g, .int .i64 e.c, .int .i64 e.a, .int .i64 e.v, .int .i64 e.m, .bool e.s, .bool e.o] 50)).drew.ownsRow 0 50 8 (.slice ta s.tr.length tc) s.tr.length (ec s.tr) := Cr.own_keep H.out.tr fun g e => by
  obtain ⟨_, cur, hc⟩ := Cr.own_blk H.out.tr g e
  exact BD.out.block g (heap_lt hc)
 obtain ⟨v', w6, hr, hown, hgrow, _, hat⟩ := run_append_own_at (P := Tryz.prog) (((w.alloc (.cells #[.int .i64 e.k, .int .i64 e.g, .int .i64 e.c, .int .i64 e.a, .int .i64 e.v, .int .i64 e.m, .bool e.s, .bool e.o] 50)).alloc (.cells #[.int .i64 e.k, .int .i64 e.g, .int .i64 e.c, .int .i64 e.a, .int .i64 e.v, .int .i64 e.m, .bool e.s, .bool e.o] 50)).drew) 0 22 22 50 i0 _ 8 56 Tryz.underlying22 INF.out.1 INF.out.2.1 INF.out.2.2.1 INF.out.2.2.2 rfl (by decide) _ _ _ ow1 ⟨w.heap.size + 1, 0, none⟩ 1 1 (ec [e]) rfl (src8 w e _) (ec_one _) (by unfold maxLen; omega) (by omega) (Nat.zero_le _)
 rw [← ec_app] at hown
 obtain ⟨ta', tc', rfl⟩ := own_sl hown
 obtain ⟨col', hx, htr⟩ := H.out.told BD.out rfl hown hgrow hat
 have G6 : w6.heap[L]? = some (.cells (rcs q pa s.ps.length pc C B oa bs.length oc s.nm ta s.tr.length tc s.pk) 114 (0, 0)) := by
  refine (hgrow.block L (Nat.lt_of_lt_of_le hL BD.out.size) (fun e => ?_)).trans ((BD.out.block L hL).trans H.out.hp)
  have := H.out.c5 L e.symm
  rw [H.out.c0] at this
  omega
 have y6 : w6.cell? ⟨L, 16, none⟩ = some (.slice ta s.tr.length tc) := cell_of G6 16
 have f6 : w6.frozen? ⟨L, 16, none⟩ = false := frozen_of G6 16
 have HX := hide hx
 have HT := hide htr
 have HR := hide hr
 clear hown hgrow hat hr hx htr G6 ow1 BD
 go_enter Tryz.func104, Tryz.ntmps104
 go_wp2_with fail
 go_region_law (refine Rp.step_append_run _ (by rfl) _ _ _ _ (by rfl) _ _ (by rfl) (by rfl) _ _ HR.out ?_)
 all_goals
  go_wp2_with fail
  go_end0
  exact ⟨rfl, ta', tc', col', HX.out, HT.out⟩
end Rlo
end Go.Proofs.YtblfimobiibmjaaGreat
namespace Go.Proofs.YtblfimobiibmjaaGreat
open Go.ChangeShapes Go.WideShapes Go.ChangeAt Go.RowKit
namespace Rp
open Ba Pe _root_.Go.Proofs.YtblfimobiibmjaaGreat.Pi
theorem own_addr {w : World} {base : Nat} {e : TypeId} {size : Nat} {oa : Option Addr} {n c m : Nat} {xs : List Value} (h : w.ownsRow base e size (.slice oa n c) m xs) : ∀ a, oa = some a → (Value.slice oa n c).ownBlock = some a.block := by
 rcases h.2 with ⟨e0, h0⟩ | ⟨g, cap, cur, e0, _⟩
 ·cases e0
  exact fun a e => by cases e
 ·cases e0
  exact fun a e => by cases e; rfl
end Rp
namespace Rlo
open Ba Lo
section
variable {w w2 : World} {col : Nat → Nat} {L N C B : Nat} {FB : Nat → Prop} {q : Hd} {pa : Option Addr} {pc : Nat} {oa : Option Addr} {oc : Nat} {bs : List (Option Nat)} {Fs : Nat → Nat → Prop} {cs : List (Option St)} {ta : Option Addr} {tc : Nat} {s : Lm}
end
end Rlo
end Go.Proofs.YtblfimobiibmjaaGreat
namespace Go.Proofs.YtblfimobiibmjaaGreat
open Go.ChangeShapes Go.WideShapes Go.ChangeAt Go.RowKit
namespace Fk
open Ba Pe _root_.Go.Proofs.YtblfimobiibmjaaGreat.Pi Rp
end Fk
end Go.Proofs.YtblfimobiibmjaaGreat
namespace Go.Proofs.YtblfimobiibmjaaGreat
open Go.ChangeShapes Go.WideShapes Go.ChangeAt Go.RowKit
namespace Rlo
open Ba Lo
end Rlo
end Go.Proofs.YtblfimobiibmjaaGreat
namespace Go.Proofs.YtblfimobiibmjaaGreat
open Go.ChangeShapes Go.WideShapes Go.ChangeAt Go.RowKit
namespace Rlo
open Ba Lo
theorem rcs_num (q : Hd) (pa : Option Addr) (n pc C B : Nat) (oa : Option Addr) (cn oc : Nat) (nm : List Int) (ta : Option Addr) (tn tc : Nat) (pk : Bool) (k : Nat) (v : Int) (hl : nm.length = 8) (hk : k < 8) :
 (rcs q pa n pc C B oa cn oc nm ta tn tc pk).setIfInBounds (8 + k) (.int .i64 v) = rcs q pa n pc C B oa cn oc (nm.set k v) ta tn tc pk := by
 obtain ⟨a0, a1, a2, a3, a4, a5, a6, a7, rfl⟩ := eight hl
 rcases (show k = 0 ∨ k = 1 ∨ k = 2 ∨ k = 3 ∨ k = 4 ∨ k = 5 ∨ k = 6 ∨ k = 7 by omega) with rfl | rfl | rfl | rfl | rfl | rfl | rfl | rfl <;> rfl
section
variable {w0 w u u2 w6 : World} {col0 col : Nat → Nat} {L N C B : Nat} {FB : Nat → Prop} {q : Hd} {pa : Option Addr} {pc : Nat} {oa : Option Addr} {oc : Nat} {bs : List (Option Nat)} {Fs : Nat → Nat → Prop} {cs : List (Option St)} {ta : Option Addr} {tc : Nat} {s : Lm}
end
set_option maxRecDepth 100000 in
set_option maxHeartbeats 3200000 in
theorem other_read (L N : Nat) (col : Nat → Nat) (s : Lm) (K : Nat) (g : Int) (a_ b_ : Int) (oc0 : Option Addr) (cn cc : Nat) (df : Bool) (w : World) (h : RW w col L N s) (ok : Ok K s) (hK : K ≤ 99000) :
 Calls Tryz.prog 110 #[.pointer (some ⟨L, 0, none⟩), .int .i64 g, .agg #[.int .i64 7, .int .i64 a_, .int .i64 b_, .slice oc0 cn cc, .bool df]] w fun r w' => r = .returned (.tuple #[]) ∧ ∃ col', RW w' col' L N (goS s ⟨9, g, -1, -1, a_, -1, false, false⟩) ∧ Tq col col' w w' := by
 obtain ⟨C, B, FB, hd, pa, pc, oa, oc, bs, Fs, cs, ta, tc, h⟩ := h
 obtain ⟨col1, h1, t1, n1⟩ := h.below (below_alloc w (.cells #[.int .i64 7, .int .i64 a_, .int .i64 b_, .slice oc0 cn cc, .bool df] 64))
 have T1 := hide t1
 have H1 := hide h1
 have E1 := hide (heap_new w (.cells #[.int .i64 7, .int .i64 a_, .int .i64 b_, .slice oc0 cn cc, .bool df] 64))
 have N1 := hide (n1 w.heap.size (Nat.le_refl _))
 have OK := hide ok
 clear h t1 h1 n1 ok
 go_enter Tryz.func110, Tryz.ntmps110
 go_wp2_with fail
 refine (bare_r 0 g _).mono ?_
 rintro r w5 ⟨rfl, b5⟩
 unfold En.evv En.evc bareE
 obtain ⟨col6, h6, t6, n6⟩ := H1.out.below (btr b5 (below_alloc w5 (.cells #[.int .i64 9, .int .i64 g, .int .i64 (-1), .int .i64 (-1), .int .i64 a_, .int .i64 (-1), .bool false, .bool false] 50)))
 have s5 := b5.size
 have V6 := hide (heap_new w5 (.cells #[.int .i64 9, .int .i64 g, .int .i64 (-1), .int .i64 (-1), .int .i64 a_, .int .i64 (-1), .bool false, .bool false] 50))
 have c0 := cell_of (heap_below E1.out b5) 0
 have c1 := cell_of (heap_below E1.out b5) 1
 have c2 := cell_of (heap_below E1.out b5) 2
 have y6 := cell_of (heap_below H1.out.hp b5) 6
 simp [rcs] at c0 c1 c2 y6
 have hL5 : L < w5.heap.size := Nat.lt_of_lt_of_le H1.out.lt s5
 have C6 := hide (n6 w5.heap.size s5)
 have T6 := hide (T1.out.trans t6)
 have E6 := hide (t6.heap E1.out N1.out)
 have N6 : Hid (col6 w.heap.size = 7) := (t6.old _ (heap_lt E1.out) (by rw [N1.out]; omega)).trans N1.out
 have H6 := hide h6
 have hE1 := heap_lt E1.out
 have hz6 : w.heap.size ≤ w5.heap.size := by omega
 have hz7 : w.heap.size < w5.heap.size := by omega
 have hn6 : w.heap.size ≠ w5.heap.size := by omega
 have hL6 : L ≠ w5.heap.size := fun e => by have := H6.out.c0; rw [e, C6.out] at this; omega
 clear h6 t6 n6 b5 T1 H1 E1 N1 hE1 s5
 have H8 := H6
 have T8 := T6
 have E8 := E6
 have N8 := N6
 have NO := hide (note_x (⟨9, g, -1, -1, a_, -1, false, false⟩ : Ev) _ H8.out (by have := OK.out.tn; show s.tr.length ≤ _; omega))
 unfold En.evv En.evc at NO
 go_wp2_with fail
 refine NO.out.mono ?_
 rintro r w9 ⟨rfl, ta9, tc9, col9, h9, t9⟩
 have T9 := hide (T8.out.trans t9)
 have H9 := hide h9
 have k9 := cell_of (t9.heap E8.out N8.out) 0
 have ya := cell_of h9.hp 6
 simp [rcs] at ya k9
 have TU := hide (Cr.rturn00 B _ s.cr K g w9 h9.cr OK.out.cb (by omega))
 clear h9 t9 NO
 go_wp2_with fail
 refine TU.out.mono ?_
 rintro r wb ⟨rfl, pb⟩
 obtain ⟨FBb, colb, hb, tb⟩ := H9.out.crew pb
 have Hb := hide hb
 have Tb := hide (T9.out.trans tb)
 clear hb tb pb TU
 go_wp2_with fail
 go_end0
 refine ⟨rfl, colb, ?_, Tb.out⟩
 exact Hb.out.lw
set_option maxRecDepth 100000 in
set_option maxHeartbeats 3200000 in
theorem other_write (L N : Nat) (col : Nat → Nat) (s : Lm) (K : Nat) (g : Int) (a_ b_ : Int) (oc0 : Option Addr) (cn cc : Nat) (df : Bool) (w : World) (h : RW w col L N s) (ok : Ok K s) (hK : K ≤ 99000) :
 Calls Tryz.prog 110 #[.pointer (some ⟨L, 0, none⟩), .int .i64 g, .agg #[.int .i64 8, .int .i64 a_, .int .i64 b_, .slice oc0 cn cc, .bool df]] w fun r w' => r = .returned (.tuple #[]) ∧ ∃ col', RW w' col' L N (goS s ⟨10, g, -1, -1, a_, -1, false, false⟩) ∧ Tq col col' w w' := by
 obtain ⟨C, B, FB, hd, pa, pc, oa, oc, bs, Fs, cs, ta, tc, h⟩ := h
 obtain ⟨col1, h1, t1, n1⟩ := h.below (below_alloc w (.cells #[.int .i64 8, .int .i64 a_, .int .i64 b_, .slice oc0 cn cc, .bool df] 64))
 have T1 := hide t1
 have H1 := hide h1
 have E1 := hide (heap_new w (.cells #[.int .i64 8, .int .i64 a_, .int .i64 b_, .slice oc0 cn cc, .bool df] 64))
 have N1 := hide (n1 w.heap.size (Nat.le_refl _))
 have OK := hide ok
 clear h t1 h1 n1 ok
 go_enter Tryz.func110, Tryz.ntmps110
 go_wp2_with fail
 refine (bare_r 0 g _).mono ?_
 rintro r w5 ⟨rfl, b5⟩
 unfold En.evv En.evc bareE
 obtain ⟨col6, h6, t6, n6⟩ := H1.out.below (btr b5 (below_alloc w5 (.cells #[.int .i64 10, .int .i64 g, .int .i64 (-1), .int .i64 (-1), .int .i64 a_, .int .i64 (-1), .bool false, .bool false] 50)))
 have s5 := b5.size
 have V6 := hide (heap_new w5 (.cells #[.int .i64 10, .int .i64 g, .int .i64 (-1), .int .i64 (-1), .int .i64 a_, .int .i64 (-1), .bool false, .bool false] 50))
 have c0 := cell_of (heap_below E1.out b5) 0
 have c1 := cell_of (heap_below E1.out b5) 1
 have c2 := cell_of (heap_below E1.out b5) 2
 have y6 := cell_of (heap_below H1.out.hp b5) 6
 simp [rcs] at c0 c1 c2 y6
 have hL5 : L < w5.heap.size := Nat.lt_of_lt_of_le H1.out.lt s5
 have C6 := hide (n6 w5.heap.size s5)
 have T6 := hide (T1.out.trans t6)
 have E6 := hide (t6.heap E1.out N1.out)
 have N6 : Hid (col6 w.heap.size = 7) := (t6.old _ (heap_lt E1.out) (by rw [N1.out]; omega)).trans N1.out
 have H6 := hide h6
 have hE1 := heap_lt E1.out
 have hz6 : w.heap.size ≤ w5.heap.size := by omega
 have hz7 : w.heap.size < w5.heap.size := by omega
 have hn6 : w.heap.size ≠ w5.heap.size := by omega
 have hL6 : L ≠ w5.heap.size := fun e => by have := H6.out.c0; rw [e, C6.out] at this; omega
 clear h6 t6 n6 b5 T1 H1 E1 N1 hE1 s5
 have H8 := H6
 have T8 := T6
 have E8 := E6
 have N8 := N6
 have NO := hide (note_x (⟨10, g, -1, -1, a_, -1, false, false⟩ : Ev) _ H8.out (by have := OK.out.tn; show s.tr.length ≤ _; omega))
 unfold En.evv En.evc at NO
 go_wp2_with fail
 refine NO.out.mono ?_
 rintro r w9 ⟨rfl, ta9, tc9, col9, h9, t9⟩
 have T9 := hide (T8.out.trans t9)
 have H9 := hide h9
 have k9 := cell_of (t9.heap E8.out N8.out) 0
 have ya := cell_of h9.hp 6
 simp [rcs] at ya k9
 have TU := hide (Cr.rturn00 B _ s.cr K g w9 h9.cr OK.out.cb (by omega))
 clear h9 t9 NO
 go_wp2_with fail
 refine TU.out.mono ?_
 rintro r wb ⟨rfl, pb⟩
 obtain ⟨FBb, colb, hb, tb⟩ := H9.out.crew pb
 have Hb := hide hb
 have Tb := hide (T9.out.trans tb)
 clear hb tb pb TU
 go_wp2_with fail
 go_end0
 refine ⟨rfl, colb, ?_, Tb.out⟩
 exact Hb.out.lw
set_option maxRecDepth 100000 in
set_option maxHeartbeats 3200000 in
theorem other_spawn (L N : Nat) (col : Nat → Nat) (s : Lm) (K : Nat) (g : Int) (a_ b_ : Int) (oc0 : Option Addr) (cn cc : Nat) (df : Bool) (w : World) (h : RW w col L N s) (ok : Ok K s) (hK : K ≤ 99000) :
 Calls Tryz.prog 110 #[.pointer (some ⟨L, 0, none⟩), .int .i64 g, .agg #[.int .i64 1, .int .i64 a_, .int .i64 b_, .slice oc0 cn cc, .bool df]] w fun r w' => r = .returned (.tuple #[]) ∧ ∃ col', RW w' col' L N (goS { s with cr := Cr.spL s.cr a_ } ⟨1, g, -1, -1, a_, Cr.spV s.cr a_, false, false⟩) ∧ Tq col col' w w' := by
 obtain ⟨C, B, FB, hd, pa, pc, oa, oc, bs, Fs, cs, ta, tc, h⟩ := h
 obtain ⟨col1, h1, t1, n1⟩ := h.below (below_alloc w (.cells #[.int .i64 1, .int .i64 a_, .int .i64 b_, .slice oc0 cn cc, .bool df] 64))
 have T1 := hide t1
 have H1 := hide h1
 have E1 := hide (heap_new w (.cells #[.int .i64 1, .int .i64 a_, .int .i64 b_, .slice oc0 cn cc, .bool df] 64))
 have N1 := hide (n1 w.heap.size (Nat.le_refl _))
 have OK := hide ok
 clear h t1 h1 n1 ok
 go_enter Tryz.func110, Tryz.ntmps110
 go_wp2_with fail
 refine (bare_r 0 g _).mono ?_
 rintro r w5 ⟨rfl, b5⟩
 unfold En.evv En.evc bareE
 obtain ⟨col6, h6, t6, n6⟩ := H1.out.below (btr b5 (below_alloc w5 (.cells #[.int .i64 0, .int .i64 g, .int .i64 (-1), .int .i64 (-1), .int .i64 (-1), .int .i64 (-1), .bool false, .bool false] 50)))
 have s5 := b5.size
 have V6 := hide (heap_new w5 (.cells #[.int .i64 0, .int .i64 g, .int .i64 (-1), .int .i64 (-1), .int .i64 (-1), .int .i64 (-1), .bool false, .bool false] 50))
 have c0 := cell_of (heap_below E1.out b5) 0
 have c1 := cell_of (heap_below E1.out b5) 1
 have c2 := cell_of (heap_below E1.out b5) 2
 have y6 := cell_of (heap_below H1.out.hp b5) 6
 simp [rcs] at c0 c1 c2 y6
 have hL5 : L < w5.heap.size := Nat.lt_of_lt_of_le H1.out.lt s5
 have C6 := hide (n6 w5.heap.size s5)
 have T6 := hide (T1.out.trans t6)
 have E6 := hide (t6.heap E1.out N1.out)
 have N6 : Hid (col6 w.heap.size = 7) := (t6.old _ (heap_lt E1.out) (by rw [N1.out]; omega)).trans N1.out
 have H6 := hide h6
 have hE1 := heap_lt E1.out
 have hz6 : w.heap.size ≤ w5.heap.size := by omega
 have hz7 : w.heap.size < w5.heap.size := by omega
 have hn6 : w.heap.size ≠ w5.heap.size := by omega
 have hL6 : L ≠ w5.heap.size := fun e => by have := H6.out.c0; rw [e, C6.out] at this; omega
 clear h6 t6 n6 b5 T1 H1 E1 N1 hE1 s5
 go_wp2_with fail
 generalize w5.alloc (.cells #[.int .i64 0, .int .i64 g, .int .i64 (-1), .int .i64 (-1), .int .i64 (-1), .int .i64 (-1), .bool false, .bool false] 50) = w6 at *
 clear hL5 hz7 c0 c1 c2 y6
 generalize w5.heap.size = Eb at *
 have SP := hide (Cr.rspawn_any B FB s.cr a_ w6.drew H6.out.drew.cr)
 have c1 : w6.cell? ⟨w.heap.size, 1, none⟩ = some (.int .i64 a_) := cell_of E6.out 1
 have y6 : w6.cell? ⟨L, 6, none⟩ = some (.pointer (some ⟨B, 0, none⟩)) := cell_of H6.out.hp 6
 go_region_held3 (fun w' => w'.cell? ⟨L, 6, none⟩ = some (.pointer (some ⟨B, 0, none⟩)) ∧ w'.cell? ⟨w.heap.size, 1, none⟩ = some (.int .i64 a_))
  (first | (with_reducible exact ⟨z6, z1⟩) | (go_keep; done) | (exact ⟨z6, z1⟩))
  (first | (go_at_call 101; refine SP.out.mono ?_; rintro r w7 ⟨rfl, p7⟩; obtain ⟨FB7, col7, h7, t7⟩ := H6.out.drew.crew p7; have z6 : w7.cell? ⟨L, 6, none⟩ = some (.pointer (some ⟨B, 0, none⟩)) := cell_of h7.hp 6; have E7 := hide (t7.heap (heap_below E6.out (bdrew1 _)) N6.out); have z1 : w7.cell? ⟨w.heap.size, 1, none⟩ = some (.int .i64 a_) := cell_of E7.out 1))
 have V7 := hide (t7.heap (heap_below V6.out (bdrew1 _)) C6.out)
 have C7 : Hid (col7 Eb = 7) := (t7.old _ (heap_lt (heap_below V6.out (bdrew1 _))) (by rw [C6.out]; omega)).trans C6.out
 have N7 : Hid (col7 w.heap.size = 7) := (t7.old _ (heap_lt (heap_below E6.out (bdrew1 _))) (by rw [N6.out]; omega)).trans N6.out
 have T7 := hide (T6.out.drew.trans t7)
 have H7 := hide h7
 rename_i hH7
 clear hH7 h7 t7 p7 SP V6 C6 E6 N6 T6 H6 c1 y6 z6
 have v0 := cell_of V7.out 0
 have v1 := cell_of V7.out 1
 have v2 := cell_of V7.out 2
 have v3 := cell_of V7.out 3
 have v4 := cell_of V7.out 4
 have v5 := cell_of V7.out 5
 have v6 := cell_of V7.out 6
 have v7 := cell_of V7.out 7
 have f0 := frozen_of V7.out 0
 have f4 := frozen_of V7.out 4
 have f5 := frozen_of V7.out 5
 simp at v0 v1 v2 v3 v4 v5 v6 v7
 have K7 := (((KB.refl Eb w7).setCell 0 (.int .i64 1)).setCell 4 (.int .i64 a_)).setCell 5 (.int .i64 (Cr.spV s.cr a_))
 have H8 := hide (H7.out.kb K7 C7.out)
 have T8 := hide (T7.out.kb K7 hz6)
 have E8 := hide (K7.heap E7.out hn6)
 have N8 := N7
 clear K7
 have NO := hide (note_x (⟨1, g, -1, -1, a_, Cr.spV s.cr a_, false, false⟩ : Ev) _ H8.out (by have := OK.out.tn; show s.tr.length ≤ _; omega))
 unfold En.evv En.evc at NO
 go_wp2_with fail
 refine NO.out.mono ?_
 rintro r w9 ⟨rfl, ta9, tc9, col9, h9, t9⟩
 have T9 := hide (T8.out.trans t9)
 have H9 := hide h9
 have k9 := cell_of (t9.heap E8.out N8.out) 0
 have ya := cell_of h9.hp 6
 simp [rcs] at ya k9
 have TU := hide (Cr.rturn00 B _ (Cr.spL s.cr a_) K g w9 h9.cr (Cr.Bn.sp OK.out.cb a_) (by omega))
 clear h9 t9 NO
 go_wp2_with fail
 refine TU.out.mono ?_
 rintro r wb ⟨rfl, pb⟩
 obtain ⟨FBb, colb, hb, tb⟩ := H9.out.crew pb
 have Hb := hide hb
 have Tb := hide (T9.out.trans tb)
 clear hb tb pb TU
 go_wp2_with fail
 go_end0
 refine ⟨rfl, colb, ?_, Tb.out⟩
 exact Hb.out.lw
end Rlo
end Go.Proofs.YtblfimobiibmjaaGreat
