/- Layer 25's reference, over this seat's program: Close. -/
import Derived.Test.YtdfjcmlafhannaaNb3
namespace Go.Proofs.Ytdfjcmlafhannaa
open Go.ChangeShapes Go.WideShapes Go.ChangeAt Go.RowKit
namespace Mx
open Ba (KB btr heap_lt cell_of frozen_of ret_bool ret_int bdrew bdrew1 heap_new below_alloc heap_below own_below)

set_option maxRecDepth 100000 in
set_option maxHeartbeats 3200000 in
theorem rclose_any {w : World} {base G n : Nat} {f : Nat → Nat → Bool} {v : Value} {bs : List Nat} (x : RX w base G n f v bs) (hbase : base ≤ w.heap.size) :
    Calls Try.prog 23 #[.pointer (some ⟨G, 0, none⟩)] w fun e w' => e = .returned (.tuple #[]) ∧ (∃ v' bs', RX w' base G n (fun i => rnds f n (f i) n) v' bs') ∧ Below base w w' ∧ KB G w w' := by
  have hle := x.le
  obtain ⟨oa, c, rfl⟩ := x.slice
  have hGs := heap_lt x.hd
  have c0 : w.cell? ⟨G, 0, none⟩ = some (.slice oa n c) := by rw [cell_of x.hd]; rfl
  have XH := hide (fun u (b : Below w.heap.size w u) => x.below b)
  have HB := hide hbase
  have HGB := hide x.gb
  clear x
  obtain ⟨N, hN⟩ : ∃ N, w.heap.size = N := ⟨_, rfl⟩
  have HN := hide hN
  rw [hN] at XH hGs HB
  clear hN
  go_enter Try.func23, Try.ntmps23
  go_wp2_with fail
  go_loopw [2, 9] (fun s i wr => ∃ (k : Nat) (u : Value) (ds : List Nat), k ≤ n ∧ i = .int .i64 (k : Int) ∧ s = u ∧ ds.length = k ∧ TX wr N n u ds (fun i => rnds f n (f i) n) ∧ Below N w wr) (fun _ i _ => n - (intOf i).toNat)
  case atStart => exact ⟨0, _, [], Nat.zero_le _, rfl, rfl, rfl, ⟨World.ownsRow_nil _ _ _ _, fun i b hb => by simp at hb, List.nodup_nil⟩, by rw [← HN.out]; exact Below.refl _ _⟩
  case round =>
    obtain ⟨k, u, ds, hk, rfl, rfl, hlen, tx, bl⟩ := hrel
    obtain ⟨oe, ce, rfl⟩ := own_slice tx.own
    by_cases hlt : k < n
    · have hlt' : (k : Int) < (n : Int) := by omega
      have FR := hide (from_any (XH.out _ bl) k hlt)
      have hsz : N ≤ wr.heap.size := by have := bl.size; rw [HN.out] at this; exact this
      have NXT : Hid (∀ w1, OB w1 wr.heap.size n (rnds f n (f k) n) → Below wr.heap.size wr w1 → ∃ oa' c' w6, (Builtin.append_ #[49, 49] 49 #[.slice oe ds.length ce, .slice (some ⟨w1.heap.size, 0, none⟩) 1 1]).run Try.prog (w1.alloc (.cells #[.slice (some ⟨wr.heap.size, 0, none⟩) n n] 52)) = .ok (.slice oa' (ds.length + 1) c') w6 ∧ TX w6 N n (.slice oa' (ds.length + 1) c') (ds ++ [wr.heap.size]) (fun i => rnds f n (f i) n) ∧ Below N w w6) := by
        rintro w1 ⟨cur, o1, o2⟩ b1
        have B2 := below_alloc w1 (.cells #[.slice (some ⟨wr.heap.size, 0, none⟩) n n] 52)
        have T2 := (tx.keep fun k _ hk => b1.block k hk).keep fun k _ hk => B2.block k hk
        obtain ⟨oa', c', w6, hr, t6, b6, -⟩ := T2.app (by omega) (by have := b1.size; have := B2.size; omega) (heap_below o1 B2) hsz (fun q => by
          obtain ⟨i, hi⟩ := List.getElem?_of_mem q
          obtain ⟨-, cur, hc, -⟩ := tx.row i _ hi
          have := heap_lt hc
          omega) (g := fun i => rnds f n (f i) n) (fun _ _ _ _ => rfl) (fun j hj => by rw [hlen]; exact o2 j hj) w1.heap.size (cell_new1 w1 _ _)
        exact ⟨oa', c', w6, hr, t6, ((bl.trans (b1.mono hsz)).trans (B2.mono (by have := b1.size; omega))).trans b6⟩
      have HLEN := hide hlen
      clear hlen tx bl
      go_wp2_with fail
      refine FR.out.mono ?_
      rintro e w1 ⟨rfl, o1, b1⟩
      obtain ⟨oa', c', w6, hr, t6, b6⟩ := NXT.out w1 o1 b1
      have HR := hide hr
      have T6 := hide t6
      have B6 := hide b6
      clear hr t6 b6 o1 b1 NXT FR
      go_wp2_with (at_builtin; refine Lib.wpList_append_run _ rfl _ _ 49 49 rfl _ _ rfl rfl _ _ HR.out ?_)
      go_wp2_with fail
      go_roundw
      case rel => exact ⟨k + 1, _, ds ++ [wr.heap.size], by omega, by go_num, rfl, by rw [List.length_append, HLEN.out]; rfl, T6.out, B6.out⟩
      case measure => simp [intOf]; omega
    · have hlt' : ¬ ((k : Int) < (n : Int)) := by omega
      obtain rfl : n = k := by omega
      have hd := (XH.out _ bl).hd
      have c1 : wr.cell? ⟨G, 0, none⟩ = some (.slice oa n c) := by rw [cell_of hd]; rfl
      have f1 := frozen_of hd 0
      have END : Hid (RX (wr.setCell ⟨G, 0, none⟩ (.slice oe ds.length ce)) base G n (fun i => rnds f n (f i) n) (.slice oe ds.length ce) ds ∧ Below base w (wr.setCell ⟨G, 0, none⟩ (.slice oe ds.length ce)) ∧ KB G w (wr.setCell ⟨G, 0, none⟩ (.slice oe ds.length ce))) := by
        refine ⟨⟨hle, Ba.heap_setCell_same hd _, HGB.out, ⟨⟨?_, ?_⟩, fun i b hb => ?_, tx.nd⟩, hlen⟩, ?_, (KB.of (by rw [HN.out]; exact bl)).setCell 0 _⟩
        · exact tx.own.1
        · rcases tx.own.2 with q | ⟨g, cap, cr, q1, q2, q3, q4⟩
          · exact .inl q
          · exact .inr ⟨g, cap, cr, q1, Nat.le_trans HB.out q2, (heap_set (ne_ty q3 hd (by decide))).trans q3, q4⟩
        · obtain ⟨h1, cr, h2, h3⟩ := tx.row i b hb
          exact ⟨Nat.le_trans HB.out h1, cr, (heap_set (ne_ty h2 hd (by decide))).trans h2, h3⟩
        · exact (bl.mono HB.out).setCell (by exact HGB.out) _
      clear hlen tx bl hd
      go_wp2_with fail
      go_end0
      exact ⟨rfl, ⟨_, _, END.out.1⟩, END.out.2⟩
end Mx
end Go.Proofs.Ytdfjcmlafhannaa
