/- Package sheet: Copy, and that nothing new is frozen, over this seat's program. -/
import Derived.Test.YtgnhophlnbpcgaaHk
namespace Go.Proofs.Ytgnhophlnbpcgaa
open Go.ChangeShapes Go.WideShapes Go.ChangeAt Go.RowKit
namespace Sh
open De Ba Re

/-- no block from N on is frozen -/
def NF (N : Nat) (w : World) : Prop := ∀ k i, N ≤ k → w.frozen? ⟨k, i, none⟩ = false
theorem NF.start (w : World) : NF w.heap.size w := by
  intro k i hk
  simp [World.frozen?, Array.getElem?_eq_none hk]
theorem NF.alloc {N : Nat} {w : World} (h : NF N w) (c : Array Value) (t : TypeId) : NF N (w.alloc (.cells c t)) := by
  intro k i hk
  by_cases e : k = w.heap.size
  · subst e
    exact frozen_of (Ba.heap_new w (.cells c t)) i
  · have : (w.alloc (.cells c t)).heap[k]? = w.heap[k]? := by
      show (w.heap.push _)[k]? = _
      rw [Array.getElem?_push]
      simp [e]
    have h2 := h k i hk
    simp only [World.frozen?, this] at h2 ⊢
    exact h2
theorem NF.setCell {N : Nat} {w : World} (h : NF N w) (a : Addr) (v : Value) : NF N (w.setCell a v) := by
  intro k i hk
  rw [World.frozen?_setCell]
  exact h k i hk
set_option maxRecDepth 100000 in
set_option maxHeartbeats 800000 in
theorem copied_case2 (oa : Option Addr) (l : List Cs) (c : Nat) (w : World) (hC : CAt w oa l) (hl : l.length ≤ 100000) :
    Calls Try.prog 53 #[.slice oa l.length c] w fun r w' => r = .returned (.slice (some ⟨w.heap.size, 0, none⟩) l.length l.length) ∧ CAt w' (some ⟨w.heap.size, 0, none⟩) l ∧ Below w.heap.size w w' ∧ ∀ N, NF N w → NF N w' := by
  obtain ⟨i0, hi, hz0, hz1, hz2⟩ := info_parts info_case
  obtain ⟨cs, h1, h2, h3⟩ := cps (cat_cells hC)
  have hm := run_mkG Try.underlying22 hi hz0 w l.length (by rw [hz2]; omega) (by omega)
  have hcp := run_cpG (z := .agg #[.bool false, .int .i64 0, .int .i64 0]) Try.underlying22 hi 3 w oa l.length c cs (by rw [hz1]; exact h1) h2 h3 (by rw [hz1]; decide)
  generalize madeCells (Value.cells (.agg #[.bool false, .int .i64 0, .int .i64 0])) (l.length * i0.size) = MC at hm hcp
  have HN : Hid (CAt (w.alloc (.cells cs.toArray 58)) (some ⟨w.heap.size, 0, none⟩) l) := by
    intro k x hk
    obtain ⟨b, off, rfl, q0, q1, q2⟩ := hC k x hk
    have hkl := (List.getElem?_eq_some_iff.1 hk).1
    refine ⟨w.heap.size, 0, rfl, ?_, ?_, ?_⟩
    · rw [Nat.zero_add, row_cell]; exact cs_get h2 (by omega) q0
    · rw [Nat.zero_add, row_cell]; exact cs_get h2 (by omega) (by rw [← Nat.add_assoc]; exact q1)
    · rw [Nat.zero_add, row_cell]; exact cs_get h2 (by omega) (by rw [← Nat.add_assoc]; exact q2)
  clear hC h2 hi hz0 hz1 hz2
  go_enter Try.func53, Try.ntmps53
  go_wp2_with fail
  go_ret
  exact ⟨rfl, HN.out, below_alloc _ _, fun N h => h.alloc _ _⟩
set_option maxRecDepth 100000 in
set_option maxHeartbeats 3200000 in
theorem copy_nf (T M : Int) (ps : List (List OpD)) (pl dr : List Int) (pa la da : Option Addr) (pc lc dc : Nat) (w : World) (hS : SAt w ⟨T, M, ps, pl, dr⟩ pa la da) (hm : Small ps pl dr) :
    Calls Try.prog 22 #[.agg #[.int .i64 T, .int .i64 M, .slice pa ps.length pc, .slice la pl.length lc, .slice da dr.length dc]] w fun r w' => (CRes w T M ps pl dr r w' ∧ NF w.heap.size w') ∧ Below w.heap.size w w' := by
  have SW := hide hS
  obtain ⟨h20, h100, h3000, hpl, hdr⟩ := hm
  have H100 := hide h100
  have H3 := hide h3000
  have B0 := hide (btr (below_alloc w (.cells #[.int .i64 T, .int .i64 M, .slice pa ps.length pc, .slice la pl.length lc, .slice da dr.length dc] 38)) (below_alloc (w.alloc (.cells #[.int .i64 T, .int .i64 M, .slice pa ps.length pc, .slice la pl.length lc, .slice da dr.length dc] 38)) (.cells #[.int .i64 0, .int .i64 0, .slice none 0 0, .slice none 0 0, .slice none 0 0] 38)))
  have X0 := hide (heap_below (heap_new w (.cells #[.int .i64 T, .int .i64 M, .slice pa ps.length pc, .slice la pl.length lc, .slice da dr.length dc] 38)) (below_alloc (w.alloc (.cells #[.int .i64 T, .int .i64 M, .slice pa ps.length pc, .slice la pl.length lc, .slice da dr.length dc] 38)) (.cells #[.int .i64 0, .int .i64 0, .slice none 0 0, .slice none 0 0, .slice none 0 0] 38)))
  have Z0 : Hid (((w.alloc (.cells #[.int .i64 T, .int .i64 M, .slice pa ps.length pc, .slice la pl.length lc, .slice da dr.length dc] 38)).alloc (.cells #[.int .i64 0, .int .i64 0, .slice none 0 0, .slice none 0 0, .slice none 0 0] 38)).heap[w.heap.size + 1]? = some (.cells #[.int .i64 0, .int .i64 0, .slice none 0 0, .slice none 0 0, .slice none 0 0] 38 (0, 0))) := by
    have := heap_new (w.alloc (.cells #[.int .i64 T, .int .i64 M, .slice pa ps.length pc, .slice la pl.length lc, .slice da dr.length dc] 38)) (.cells #[.int .i64 0, .int .i64 0, .slice none 0 0, .slice none 0 0, .slice none 0 0] 38)
    rw [World.size_alloc] at this
    exact this
  have s0 : ((w.alloc (.cells #[.int .i64 T, .int .i64 M, .slice pa ps.length pc, .slice la pl.length lc, .slice da dr.length dc] 38)).alloc (.cells #[.int .i64 0, .int .i64 0, .slice none 0 0, .slice none 0 0, .slice none 0 0] 38)).heap.size = w.heap.size + 1 + 1 := by rw [World.size_alloc, World.size_alloc]
  have HS0 := hide s0
  have F0 := hide (((NF.start w).alloc (#[.int .i64 T, .int .i64 M, .slice pa ps.length pc, .slice la pl.length lc, .slice da dr.length dc]) 38).alloc #[.int .i64 0, .int .i64 0, .slice none 0 0, .slice none 0 0, .slice none 0 0] 38)
  obtain ⟨x0, x1, x2, x3, x4⟩ := sc_cells X0.out
  have fz2 := frozen_of X0.out 2
  clear hS h100 h3000 s0
  go_enter Try.func22, Try.ntmps22
  go_wp2_with fail
  generalize (w.alloc (.cells #[.int .i64 T, .int .i64 M, .slice pa ps.length pc, .slice la pl.length lc, .slice da dr.length dc] 38)).alloc (.cells #[.int .i64 0, .int .i64 0, .slice none 0 0, .slice none 0 0, .slice none 0 0] 38) = W0 at B0 X0 Z0 HS0 F0 x0 x1 x2 x3 x4 fz2 ⊢
  refine (copied_pr pa ps pc _ (SW.out.ps.below B0.out) (by show ps.length ≤ 1000; omega)).mono ?_
  rw [HS0.out]
  rintro r w1 ⟨rfl, cs, hw1, hcl, hcs⟩
  have G1 : Hid (w1.heap[w.heap.size + 1 + 1]? = some (.cells cs.toArray 56 (0, 0))) := by
    have := heap_new W0 (.cells cs.toArray 56)
    rw [HS0.out] at this
    show _ = _
    rw [hw1]
    exact this
  have B1 : Hid (Below W0.heap.size W0 w1) := by
    show Below _ _ _
    rw [hw1]
    exact below_alloc _ _
  have F1 : Hid (NF w.heap.size w1) := by
    show NF _ _
    rw [hw1]
    exact F0.out.alloc _ _
  have PM1 := hide (PM.start SW.out.ps B0.out hcl hcs (w1.setCell ⟨w.heap.size, 2, none⟩ (.slice (some ⟨w.heap.size + 1 + 1, 0, none⟩) ps.length ps.length)) (w.heap.size + 1 + 1 + 1))
  have C0 : Hid (CC w w1 (w.heap.size + 1 + 1) (.int .i64 T) (.int .i64 M) (.slice pa ps.length pc) (.slice la pl.length lc) (.slice da dr.length dc) cs.toArray ps.length) :=
    ⟨heap_below X0.out B1.out, heap_below Z0.out B1.out, G1.out, by rw [List.size_toArray, hcl], btr B0.out B1.out, by omega⟩
  have C1 := hide (C0.out.box (u2 := .slice (some ⟨w.heap.size + 1 + 1, 0, none⟩) ps.length ps.length) 2 _ rfl)
  obtain ⟨x0, x1, x2, x3, x4⟩ := sc_cells C0.out.bx
  have fz2 := frozen_of C0.out.bx 2
  have N1 : Hid (w.heap.size + 1 + 1 + 1 ≤ (w1.setCell ⟨w.heap.size, 2, none⟩ (.slice (some ⟨w.heap.size + 1 + 1, 0, none⟩) ps.length ps.length)).heap.size) := De.heap_lt C1.out.pr
  clear hw1 hcl hcs
  go_wp2_with fail
  go_loopw [13] (fun i wr => ∃ (k : Nat) (arr : Array Value), k ≤ ps.length ∧ i = .int .i64 k ∧ CC w wr (w.heap.size + 1 + 1) (.int .i64 T) (.int .i64 M) (.slice (some ⟨w.heap.size + 1 + 1, 0, none⟩) ps.length ps.length) (.slice la pl.length lc) (.slice da dr.length dc) arr ps.length ∧ PM w wr (w.heap.size + 1 + 1 + 1) k arr ps ∧ w.heap.size + 1 + 1 + 1 ≤ wr.heap.size ∧ NF w.heap.size wr) (fun i _ => ps.length - (intOf i).toNat)
  case atStart => exact ⟨0, cs.toArray, Nat.zero_le _, rfl, C1.out, PM1.out, N1.out, F1.out.setCell _ _⟩
  case round =>
    clear x0 x1 x2 x3 x4 fz2 C0 C1 PM1 G1 B1 N1 B0 X0 Z0 HS0 F0 F1
    rename World => w2
    obtain ⟨k, arr, hk, rfl, c2, pm2, n2, f2⟩ := hrel
    have F2 := hide f2
    clear f2
    have C2 := hide c2
    have PM2 := hide pm2
    clear c2 pm2
    by_cases hlt : k < ps.length
    · have hlt' : (k : Int) < (ps.length : Int) := by omega
      obtain ⟨q, hq⟩ : ∃ q, ps[k]? = some q := ⟨ps[k], by simp [hlt]⟩
      obtain ⟨qa, qc, har, hO⟩ := PM2.out.2 k q (Nat.le_refl _) hq
      have ck := (cell_of C2.out.pr k).trans har
      have hqm := List.mem_of_getElem? hq
      have hq1 := H100.out q hqm
      have hq3 := H3.out q hqm
      have HQ := hide hq
      have HO := hide hO
      have HQ3 := hide hq3
      clear hq hO hqm hq3 har
      go_wp2_with fail
      refine (copied_op qa q qc _ (HO.out.below C2.out.bel) (by omega)).mono ?_
      rintro r w3 ⟨rfl, cq, hw3, hcl, hcs⟩
      have B3 : Hid (Below w2.heap.size w2 w3) := by
        show Below _ _ _
        rw [hw3]
        exact below_alloc _ _
      have OM3 : Hid (OM w3 w.heap.size w2.heap.size 0 q) := by
        have := OM.start HO.out C2.out.bel hcl hcs HQ3.out
        rw [← hw3] at this
        exact this
      have G3 : Hid (w3.heap[w2.heap.size]? = some (.cells cq.toArray 24 (0, 0))) := by
        show _ = _
        rw [hw3]
        exact heap_new _ _
      have F3 : Hid (NF w.heap.size w3) := by
        show NF _ _
        rw [hw3]
        exact F2.out.alloc _ _
      have s3 := De.heap_lt G3.out
      have HCL := hide hcl
      clear hw3 hcl hcs ck
      go_wp2_with fail
      go_loopw [22] (fun i wr => ∃ (j : Nat), j ≤ q.length ∧ i = .int .i64 j ∧ Below w2.heap.size w2 wr ∧ OM wr w.heap.size w2.heap.size j q ∧ (∀ i, wr.frozen? ⟨w2.heap.size, i, none⟩ = false) ∧ w2.heap.size < wr.heap.size ∧ NF w.heap.size wr) (fun i _ => q.length - (intOf i).toNat)
      case atStart => exact ⟨0, Nat.zero_le _, rfl, B3.out, OM3.out, fun i => frozen_of G3.out i, s3, F3.out⟩
      case round =>
        clear OM3 G3 s3 B3 F3
        obtain ⟨j, hj, rfl, bw, om4, fz4, n4, f4⟩ := hrel
        have F4 := hide f4
        clear f4
        have BW := hide bw
        have OM4 := hide om4
        have FZ4 := hide fz4
        clear bw om4 fz4
        by_cases hjl : j < q.length
        · have hjl' : (j : Int) < (q.length : Int) := by omega
          obtain ⟨o, ho⟩ : ∃ o, q[j]? = some o := ⟨q[j], by simp [hjl]⟩
          obtain ⟨ca, cc, ⟨y0, y1, y2, y3, y4⟩, hC, -, -, hl3⟩ := OM4.out j o ho
          have HX := hide ho
          have HC := hide hC
          clear ho hC y0 y1 y2 y4
          go_wp2_with fail
          refine (copied_case2 ca o.cases cc _ HC.out (by omega)).mono ?_
          rintro r w5 ⟨rfl, c5, b5, nf5⟩
          have F5 := hide (nf5 _ F4.out)
          clear nf5
          have C5 := hide c5
          have s5 := b5.size
          have OM5 := hide (OM4.out.below b5)
          have z3 := cellB y3 b5
          have zf := (b5.frozen (p := ⟨w2.heap.size, j * 5 + 3, none⟩) n4).trans (FZ4.out (j * 5 + 3))
          have FZ5 : Hid (∀ i, w5.frozen? ⟨w2.heap.size, i, none⟩ = false) := fun i => (b5.frozen (p := ⟨w2.heap.size, i, none⟩) n4).trans (FZ4.out i)
          have BW5 := hide (BW.out.trans (b5.mono (Nat.le_of_lt n4)))
          clear c5 b5 y3
          go_wp2_with fail
          go_roundw
          case rel => exact ⟨j + 1, by omega, by go_num, BW5.out.setCell (Nat.le_refl _) _, OM5.out.step (by omega) HX.out ⟨wr.heap.size, 0, none⟩ o.cases.length C5.out n4, fun i => by rw [World.frozen?_setCell]; exact FZ5.out i, Nat.lt_of_lt_of_le (Nat.lt_of_lt_of_le n4 s5) ((De.KB.refl w2.heap.size w5).setCell (j * 5 + 3) (.slice (some ⟨wr.heap.size, 0, none⟩) o.cases.length o.cases.length)).size, F5.out.setCell _ _⟩
          case measure => simp [intOf]; omega
        · have hjl' : ¬ ((j : Int) < (q.length : Int)) := by omega
          have C5 := hide (C2.out.below BW.out)
          have PM5 := hide (PM2.out.below BW.out (by omega))
          have OF5 := hide (OM4.out.done (by omega))
          have PM6 := hide ((PM5.out.step HQ.out (by rw [C5.out.sz]; exact hlt) w2.heap.size q.length OF5.out n2 (by omega)).kb ((De.KB.refl (w.heap.size + 1 + 1) wr).setCell k (.slice (some ⟨w2.heap.size, 0, none⟩) q.length q.length)) (by omega))
          obtain ⟨x0, x1, x2, x3, x4⟩ := sc_cells C5.out.bx
          have fk := frozen_of C5.out.pr k
          obtain ⟨vk, hvk⟩ : ∃ v, wr.cell? ⟨w.heap.size + 1 + 1, k, none⟩ = some v := ⟨_, (cell_of C5.out.pr k).trans (Array.getElem?_eq_getElem (by rw [C5.out.sz]; exact hlt))⟩
          have s6 := ((De.KB.refl (w.heap.size + 1 + 1) wr).setCell k (.slice (some ⟨w2.heap.size, 0, none⟩) q.length q.length)).size
          go_wp2_with fail
          go_roundw
          case rel => exact ⟨k + 1, _, by omega, by go_num, C5.out.store k _, PM6.out, by omega, F4.out.setCell _ _⟩
          case measure => simp [intOf]; omega
    · have hlt' : ¬ ((k : Int) < (ps.length : Int)) := by omega
      have PF2 : Hid (PF w2 (w.heap.size + 1 + 1 + 1) arr ps) := by
        have := PM2.out.1
        rw [List.take_of_length_le (by omega)] at this
        exact this
      obtain ⟨x0, x1, x2, x3, x4⟩ := sc_cells C2.out.bx
      clear PM2
      go_wp2_with fail
      refine (copied_int la pl lc _ (SW.out.pl.below C2.out.bel) (by show pl.length ≤ 1000000; omega)).mono ?_
      rintro r w3 ⟨rfl, hw3⟩
      have B3 : Hid (Below w2.heap.size w2 w3) := by
        show Below _ _ _
        rw [hw3]
        exact below_alloc _ _
      have F3 : Hid (NF w.heap.size w3) := by
        show NF _ _
        rw [hw3]
        exact F2.out.alloc _ _
      have L3 : Hid (w3.heap[w2.heap.size]? = some (.cells (row pl) 3 (0, 0))) := by
        show _ = _
        rw [hw3]
        exact heap_new _ _
      have s3 := De.heap_lt L3.out
      have C3 := hide (C2.out.below B3.out)
      have PF3 := hide (PF2.out.below B3.out (by omega))
      obtain ⟨x0, x1, x2, x3, x4⟩ := sc_cells C3.out.bx
      have fz3 := frozen_of C3.out.bx 3
      have K4 := (De.KB.refl w.heap.size w3).setCell 3 (.slice (some ⟨w2.heap.size, 0, none⟩) pl.length pl.length)
      have C4 := hide (C3.out.box (u3 := .slice (some ⟨w2.heap.size, 0, none⟩) pl.length pl.length) 3 _ rfl)
      have PF4 := hide (PF3.out.kb K4 (by omega))
      have L4 := hide (K4.heap L3.out (by omega))
      have s4 := K4.size
      have F4 := hide (F3.out.setCell ⟨w.heap.size, 3, none⟩ (.slice (some ⟨w2.heap.size, 0, none⟩) pl.length pl.length))
      clear hw3 K4
      go_wp2_with fail
      refine (copied_int da dr dc _ (SW.out.dr.below C4.out.bel) (by show dr.length ≤ 1000000; omega)).mono ?_
      generalize hW4 : w3.setCell ⟨w.heap.size, 3, none⟩ (.slice (some ⟨w2.heap.size, 0, none⟩) pl.length pl.length) = W4 at C4 PF4 L4 s4 F4 ⊢
      rintro r w5 ⟨rfl, hw5⟩
      have B5 : Hid (Below W4.heap.size W4 w5) := by
        show Below _ _ _
        rw [hw5]
        exact below_alloc _ _
      have F5 : Hid (NF w.heap.size w5) := by
        show NF _ _
        rw [hw5]
        exact F4.out.alloc _ _
      have D5 : Hid (w5.heap[W4.heap.size]? = some (.cells (row dr) 3 (0, 0))) := by
        show _ = _
        rw [hw5]
        exact heap_new _ _
      have C5 := hide (C4.out.below B5.out)
      have PF5 := hide (PF4.out.below B5.out (by omega))
      have L5 := hide (heap_below L4.out B5.out)
      obtain ⟨x0, x1, x2, x3, x4⟩ := sc_cells C5.out.bx
      have fz4 := frozen_of C5.out.bx 4
      have K6 := (De.KB.refl w.heap.size w5).setCell 4 (.slice (some ⟨W4.heap.size, 0, none⟩) dr.length dr.length)
      have C6 := hide (C5.out.box (u4 := .slice (some ⟨W4.heap.size, 0, none⟩) dr.length dr.length) 4 _ rfl)
      have PF6 := hide (PF5.out.kb K6 (by omega))
      have L6 := hide (K6.heap L5.out (by omega))
      have D6 := hide (K6.heap D5.out (by omega))
      obtain ⟨y0, y1, y2, y3, y4⟩ := sc_cells C6.out.bx
      obtain ⟨r0, r1, r2, r3, r4⟩ := sc_cells C6.out.zr
      have q0 := frozen_of C6.out.zr 0
      have q1 := frozen_of C6.out.zr 1
      have q2 := frozen_of C6.out.zr 2
      have q3 := frozen_of C6.out.zr 3
      have q4 := frozen_of C6.out.zr 4
      clear hw5 K6 hW4
      go_wp2_with fail
      have KZ := fun (u0 u1 u2 u3 u4 : Value) => (((((De.KB.refl (w.heap.size + 1) (w5.setCell ⟨w.heap.size, 4, none⟩ (.slice (some ⟨W4.heap.size, 0, none⟩) dr.length dr.length))).setCell 0 u0).setCell 1 u1).setCell 2 u2).setCell 3 u3).setCell 4 u4
      have hL2 : w.heap.size + 1 + 1 < w2.heap.size := by omega
      exact bodyPost_ret (results_row1 Try.results22 _ _ _ _ rfl (loadVar_sc (five_set C6.out.zr _ _ _ _ _) rfl)) rfl ⟨⟨⟨w.heap.size + 1 + 1, w2.heap.size, W4.heap.size, arr, rfl, ⟨(KZ _ _ _ _ _).heap C6.out.pr (by omega), (PF6.out.kb (KZ _ _ _ _ _) (by omega)).mono (by omega), by omega⟩, ⟨(KZ _ _ _ _ _).heap L6.out (by omega), hL2⟩, (KZ _ _ _ _ _).heap D6.out (by omega), by omega⟩, (((((F5.out.setCell _ _).setCell _ _).setCell _ _).setCell _ _).setCell _ _).setCell _ _⟩, De.KB.below C6.out.bel (KZ _ _ _ _ _) (by omega)⟩
end Sh
end Go.Proofs.Ytgnhophlnbpcgaa
