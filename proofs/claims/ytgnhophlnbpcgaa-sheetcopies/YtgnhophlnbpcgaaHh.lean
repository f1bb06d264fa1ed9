/- Package sheet: the reader's program, over this seat's program. -/
import Derived.Test.YtgnhophlnbpcgaaHg
namespace Go.Proofs.Ytgnhophlnbpcgaa
open Go.ChangeShapes Go.WideShapes Go.ChangeAt Go.RowKit
namespace Sh
open De Ba Re

theorem info_op : (Try.prog.info? 24).map (fun i => (i.zero, i.size, i.bytes)) = some (some (.agg #[.int .i64 0, .int .i64 0, .int .i64 0, .slice none 0 0, .bool false]), 5, 56) := by kernel_rfl
theorem OR.new (w : World) (n : Nat) (MC : Array Value) (t : TypeId) (h : MC.size = n * 5) : OR (w.alloc (.cells MC t)) w.heap.size n := by
  have hh := heap_new w (.cells MC t)
  refine ⟨fun c hc => ?_, fun c => frozen_of hh c⟩
  rw [cell_of hh, Array.getElem?_eq_getElem (by omega)]
  rfl
/-- a program from z on, and where one stands behind it -/
def rprog (p : Int) (s : ByteArray) (z : Nat) : Option (List OpD × Nat) := match up1 32 ((nbs s).drop z) with
  | none => none
  | some (n, k) => rops p s (z + k) n
/-- what the reader's program answers -/
def PR (w : World) (R : Nat) (s : ByteArray) (z : Nat) (f : Bool) (p : Int) (r : Ending) (w' : World) : Prop :=
  ((f = true ∨ rprog p s z = none) ∧ (∃ oa c, r = .returned (.slice oa 0 c)) ∧ ∃ y, y ≤ s.size ∧ RD2 w' R s y true) ∨
  (f = false ∧ ∃ q y g c, rprog p s z = some (q, y) ∧ r = .returned (.slice (some ⟨g, 0, none⟩) q.length c) ∧ (OF w' (g + 1) g q ∧ w.heap.size ≤ g ∧ q.length ≤ 32) ∧ y ≤ s.size ∧ RD2 w' R s y false)

set_option maxRecDepth 100000 in
set_option maxHeartbeats 3200000 in
theorem program_any (R : Nat) (s : ByteArray) (z : Nat) (f : Bool) (p : Int) (w : World) (hR : RD2 w R s z f) (hz : z ≤ s.size) (hp : okP p = true) :
    Calls Try.prog 47 #[.pointer (some ⟨R, 0, none⟩), .int .i64 p] w fun r w' => PR w R s z f p r w' ∧ De.KB R w w' := by
  have hRl := De.heap_lt hR
  have R0 := hide (heap_below hR (below_alloc w (.cells #[.int .i64 32] 3)))
  have K0 := hide (De.KB.of (R := R) (below_alloc w (.cells #[.int .i64 32] 3)))
  have A0 := hide (At.lit w [32] 3 #[.int .i64 32] rfl)
  have HP := hide hp
  clear hR hp
  go_enter Try.func47, Try.ntmps47
  go_wp2_with fail
  refine (upTo_any R s z f _ [32] 1 _ R0.out A0.out (fun a e => by cases e; show w.heap.size ≠ R; omega) (show 1 ≤ 3 by decide) hz).mono ?_
  rw [World.size_alloc]
  rintro r w1 ⟨rfl, g1, ⟨r1, z1⟩, k1⟩
  have R1 := hide r1
  have K1 := hide (K0.out.trans k1)
  have G1 := hide g1
  clear r1 k1 g1 R0 K0 A0
  obtain ⟨i0, hi, hz0, hz1, hz2⟩ := info_parts info_op
  by_cases hfail : f = true ∨ up1 32 ((nbs s).drop z) = none
  · have hul : ul s [32] z f = ([0], z, true) := by
      rcases hfail with rfl | h
      · exact ul_t s [32] z (by simp)
      · exact ul_n s 32 [] z f h
    rw [hul] at R1 G1
    have c0 := cell_of G1.out 0
    simp [row] at c0
    have hm := run_mkG Try.underlying56 hi hz0 w1 0 (by omega) (by omega)
    simp only [Nat.zero_mul, Int.cast_ofNat_Int] at hm
    generalize madeCells (Value.cells (.agg #[.int .i64 0, .int .i64 0, .int .i64 0, .slice none 0 0, .bool false])) 0 = MC at hm
    have HF : Hid (f = true ∨ rprog p s z = none) := by
      rcases hfail with h | h
      · exact .inl h
      · right; simp [rprog, h]
    clear hfail hul
    have R3 := hide (heap_below R1.out (below_alloc w1 (.cells MC 24)))
    have K3 := hide (K1.out.trans (De.KB.of (below_alloc w1 (.cells MC 24))))
    go_wp2_with fail
    refine wp_loop_rounds 1 ?_
    rw [rounds_succ]
    go_wp2_with fail
    go_ret
    exact ⟨.inl ⟨HF.out, ⟨_, _, rfl⟩, z, hz, R3.out⟩, K3.out⟩
  · have hff : f = false := by
      cases f
      · rfl
      · exact absurd (.inl rfl) hfail
    subst hff
    obtain ⟨⟨n, k⟩, hu⟩ : ∃ q, up1 32 ((nbs s).drop z) = some q := by
      cases h : up1 32 ((nbs s).drop z) with
      | none => exact absurd (.inr h) hfail
      | some q => exact ⟨q, rfl⟩
    have hul := ul_s s 32 [] z n k hu
    rw [hul] at R1 G1 z1
    simp only [ul] at R1 G1 z1
    have c0 := cell_of G1.out 0
    simp [row] at c0
    have hn32 : n ≤ 32 := by
      unfold up1 at hu
      split at hu
      · cases hu
      · split at hu
        · simp at hu; omega
        · cases hu
    have hm := run_mkG Try.underlying56 hi hz0 w1 n (by rw [hz2]; omega) (by omega)
    have hMC : (madeCells (Value.cells (.agg #[.int .i64 0, .int .i64 0, .int .i64 0, .slice none 0 0, .bool false])) (n * i0.size)).size = n * 5 := by rw [size_madeCells, hz1]
    generalize madeCells (Value.cells (.agg #[.int .i64 0, .int .i64 0, .int .i64 0, .slice none 0 0, .bool false])) (n * i0.size) = MC at hm hMC
    have HU := hide hu
    clear hfail hul hu hi hz0 hz1 hz2
    have O2 := hide (OR.new w1 n MC 24 hMC)
    have R2 := hide (heap_below R1.out (below_alloc w1 (.cells MC 24)))
    have K2 := hide (K1.out.trans (De.KB.of (below_alloc w1 (.cells MC 24))))
    have s1 := K1.out.size
    have hW : Hid (w1.heap.size < (w1.alloc (.cells MC 24)).heap.size) := by show _ < _; simp
    go_wp2_with fail
    generalize w1.alloc (.cells MC 24) = W at O2 R2 K2 hW ⊢
    go_loopw [18] (fun i wr => ∃ (j y : Nat) (l : List OpD), j ≤ n ∧ i = .int .i64 j ∧ y ≤ s.size ∧ rops p s (z + k) j = some (l, y) ∧ (RD2 wr R s y false ∧ OR wr w1.heap.size n ∧ OF wr (w1.heap.size + 1) w1.heap.size l) ∧ De.KB R w wr ∧ w1.heap.size < wr.heap.size) (fun i _ => n - (intOf i).toNat)
    case atStart => exact ⟨0, z + k, [], Nat.zero_le _, rfl, z1, rfl, ⟨R2.out, O2.out, fun t o ht => by simp at ht⟩, K2.out, hW.out⟩
    case round =>
      clear O2 R2 K2 hW R1 K1 G1 c0 hm hMC
      obtain ⟨j, y, l, hj, rfl, hy, hro, ⟨r3, o3, of3⟩, k3, l3⟩ := hrel
      have RO := hide hro
      have R3 := hide r3
      have O3 := hide o3
      have F3 := hide of3
      have K3 := hide k3
      obtain ⟨⟨d0, d1⟩, g0, g1⟩ := rd_cells r3
      clear hro r3 o3 of3 k3
      by_cases hjn : j < n
      · have hjn' : (j : Int) < (n : Int) := by omega
        go_wp2_with fail
        refine (decode_main_f _ p _ HP.out).mono ?_
        obtain ⟨⟨ok, oo, ob, cs, od⟩, S1, ff, hrop⟩ : ∃ o S1 ff, rop (s.extract y s.size) false = (o, S1, ff) := ⟨_, _, _, rfl⟩
        rw [hrop]
        have HRO := hide hrop
        clear hrop
        rintro r w4 ⟨⟨hf, rfl⟩ | ⟨h1, h2, oa, c, rfl, hA, hF⟩, b4⟩
        · have DN : Hid (dop p (s.extract y s.size) = none) := by
            show _ = _
            unfold dop
            rw [HRO.out, if_neg]
            rintro ⟨e1, e2⟩
            simp only at e1 e2
            rw [e1, e2] at hf
            simp at hf
          have NO : Hid (rprog p s z = none) := by
            show _ = _
            unfold rprog
            rw [HU.out]
            exact rops_stop RO.out DN.out n hjn
          have R4 := hide (heap_below R3.out (btr b4 (below_alloc w4 (.cells #[.int .i64 0, .int .i64 0, .int .i64 0, .slice none 0 0, .bool false] 24))))
          have K4 := hide (K3.out.trans (De.KB.of (btr b4 (below_alloc w4 (.cells #[.int .i64 0, .int .i64 0, .int .i64 0, .slice none 0 0, .bool false] 24)))))
          obtain ⟨⟨e0, e1⟩, q0, q1⟩ := rd_cells R4.out
          clear b4 hf
          go_wp2_with fail
          go_ret
          exact ⟨.inl ⟨.inr NO.out, ⟨none, 0, rfl⟩, y, hy, rd_set1 R4.out⟩, K4.out.setCell 1 _⟩
        · simp only at h1 h2
          subst h1
          have DS : Hid (dop p (s.extract y s.size) = some (⟨ok, oo, ob, cs, od⟩, (eop ⟨ok, oo, ob, cs, od⟩).length)) := by
            show _ = _
            unfold dop
            rw [HRO.out, if_pos ⟨rfl, h2⟩]
          obtain ⟨e1, e2, -, -, -⟩ := dop_rest hy DS.out
          rw [HRO.out] at e1
          simp only at e1
          subst e1
          have NX := hide (rops_next RO.out DS.out)
          generalize (eop ⟨ok, oo, ob, cs, od⟩).length = kk at NX e2
          have c4 := (chk_zero h2).2.2.1
          simp only at c4
          have s4 := b4.size
          have B5 := hide (btr b4 (below_alloc w4 (.cells #[.int .i64 ok, .int .i64 oo, .int .i64 ob, .slice oa cs.length c, .bool od] 24)))
          have R5 := hide (heap_below R3.out B5.out)
          have K5 := hide (K3.out.trans (De.KB.of B5.out))
          have F5 := hide (F3.out.kb (De.KB.of (R := R) B5.out) (by omega) (by omega))
          have O5 := hide (O3.out.kb (De.KB.of (R := R) B5.out) l3 (by omega))
          have C5 := hide (hA.below (below_alloc w4 (.cells #[.int .i64 ok, .int .i64 oo, .int .i64 ob, .slice oa cs.length c, .bool od] 24)))
          have HF := hide hF
          have W5 : Hid (w1.heap.size < (w4.alloc (.cells #[.int .i64 ok, .int .i64 oo, .int .i64 ob, .slice oa cs.length c, .bool od] 24)).heap.size) := by show _ < _; simp; omega
          obtain ⟨⟨y0, y1⟩, q0, q1⟩ := rd_cells R5.out
          have LL := hide (rops_len RO.out)
          obtain ⟨x0, v0⟩ := Option.isSome_iff_exists.1 (O5.out.1 (j * 5) (by omega))
          obtain ⟨x1, v1⟩ := Option.isSome_iff_exists.1 (O5.out.1 (j * 5 + 1) (by omega))
          obtain ⟨x2, v2⟩ := Option.isSome_iff_exists.1 (O5.out.1 (j * 5 + 2) (by omega))
          obtain ⟨x3, v3⟩ := Option.isSome_iff_exists.1 (O5.out.1 (j * 5 + 3) (by omega))
          obtain ⟨x4, v4⟩ := Option.isSome_iff_exists.1 (O5.out.1 (j * 5 + 4) (by omega))
          have u0 := O5.out.2 (j * 5)
          have u1 := O5.out.2 (j * 5 + 1)
          have u2 := O5.out.2 (j * 5 + 2)
          have u3 := O5.out.2 (j * 5 + 3)
          have u4' := O5.out.2 (j * 5 + 4)
          have W := hide (heap_new w4 (.cells #[.int .i64 ok, .int .i64 oo, .int .i64 ob, .slice oa cs.length c, .bool od] 24))
          clear b4 hA hF h2
          go_wp2_with fail
          generalize hWW : w4.alloc (.cells #[.int .i64 ok, .int .i64 oo, .int .i64 ob, .slice oa cs.length c, .bool od] 24) = WW at *
          have FS := F5.out.store O5.out (Nat.lt_succ_self _) LL.out hjn ⟨ok, oo, ob, cs, od⟩ oa c C5.out (fun a e => by have := HF.out a e; omega) (Nat.le_trans c4 (by decide)) _ rfl
          have KG : De.KB w1.heap.size WW (((((WW.setCell ⟨w1.heap.size, j * 5, none⟩ (.int .i64 ok)).setCell ⟨w1.heap.size, j * 5 + 1, none⟩ (.int .i64 oo)).setCell ⟨w1.heap.size, j * 5 + 2, none⟩ (.int .i64 ob)).setCell ⟨w1.heap.size, j * 5 + 3, none⟩ (.slice oa cs.length c)).setCell ⟨w1.heap.size, j * 5 + 4, none⟩ (.bool od)) :=
            (((((De.KB.refl w1.heap.size WW).setCell (j * 5) _).setCell (j * 5 + 1) _).setCell (j * 5 + 2) _).setCell (j * 5 + 3) _).setCell (j * 5 + 4) _
          have sG := KG.size
          have w5 := W5.out
          go_roundw
          case rel =>
            refine ⟨j + 1, y + kk, l ++ [⟨ok, oo, ob, cs, od⟩], by omega, by go_num, e2, NX.out, ⟨rd_set0 (KG.heap R5.out (by omega)), ?_, ?_⟩, ?_, ?_⟩
            · exact FS.2.kb ((De.KB.refl R _).setCell 0 _) (Nat.lt_of_lt_of_le w5 sG) (by omega)
            · exact FS.1.kb ((De.KB.refl R _).setCell 0 _) (by omega) (by omega)
            · exact (kb_setCell (kb_setCell (kb_setCell (kb_setCell (kb_setCell K5.out s1 _ _) s1 _ _) s1 _ _) s1 _ _) s1 _ _).setCell 0 _
            · exact Nat.lt_of_lt_of_le w5 (Nat.le_trans sG ((De.KB.refl R _).setCell 0 _).size)
          case measure => simp [intOf]; omega
      · have hjn' : ¬ ((j : Int) < (n : Int)) := by omega
        obtain rfl : j = n := by omega
        have LL := hide (rops_len RO.out)
        have RP : Hid (rprog p s z = some (l, y)) := by
          show _ = _
          unfold rprog
          rw [HU.out]
          exact RO.out
        go_wp2_with fail
        go_ret
        exact ⟨.inr ⟨rfl, l, y, w1.heap.size, j, RP.out, by rw [LL.out]; rfl, ⟨F3.out, by omega, by rw [LL.out]; omega⟩, hy, R3.out⟩, K3.out⟩
end Sh
end Go.Proofs.Ytgnhophlnbpcgaa
