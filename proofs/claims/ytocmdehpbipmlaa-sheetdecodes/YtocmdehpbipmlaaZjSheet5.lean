import Derived.Test.YtocmdehpbipmlaaZjSheet4
import Derived.Deep.DeepCutAuto
import Derived.Deep.RegionWith
/- Package sheet: the reader's program, over this seat's program. -/
namespace Go.Proofs.Ytocmdehpbipmlaa
open Go.ChangeShapes Go.WideShapes Go.ChangeAt Go.RowKit
namespace Sh
open De Ba Re

theorem info_op : (Try.prog.info? 24).map (fun i => (i.zero, i.size, i.bytes)) = some (some (.agg #[.int .i64 0, .int .i64 0, .int .i64 0, .slice none 0 0, .bool false]), 5, 56) := by kernel_rfl
theorem OR.new (w : World) (n : Nat) (MC : Array Value) (t : TypeId) (h : MC.size = n * 5) : OR (w.alloc (.cells MC t)) w.heap.size n := by
  have hh := heap_new w (.cells MC t)
  refine ⟨fun c hc => ?_, fun c => frozen_of hh c⟩
  rw [cell_of hh, Array.getElem?_eq_getElem (by omega)]
  rfl
/-- a program from z on, and where one stands behind it -/
def rprog (p : Int) (s : ByteArray) (z : Nat) : Option (List OpD × Nat) := match up1 32 ((nbs s).drop z) with
  | none => none
  | some (n, k) => rops p s (z + k) n
/-- what the reader's program answers -/
def PR (w : World) (R : Nat) (s : ByteArray) (z : Nat) (f : Bool) (p : Int) (r : Ending) (w' : World) : Prop :=
  ((f = true ∨ rprog p s z = none) ∧ (∃ oa c, r = .returned (.slice oa 0 c)) ∧ ∃ y, y ≤ s.size ∧ RD2 w' R s y true) ∨
  (f = false ∧ ∃ q y g c, rprog p s z = some (q, y) ∧ r = .returned (.slice (some ⟨g, 0, none⟩) q.length c) ∧ (OF w' (g + 1) g q ∧ w.heap.size ≤ g ∧ q.length ≤ 32) ∧ y ≤ s.size ∧ RD2 w' R s y false)

set_option maxRecDepth 100000 in
set_option maxHeartbeats 3200000 in
theorem program_any (R : Nat) (s : ByteArray) (z : Nat) (f : Bool) (p : Int) (w : World) (hR : RD2 w R s z f) (hz : z ≤ s.size) (hp : okP p = true) :
    Calls Try.prog 47 #[.pointer (some ⟨R, 0, none⟩), .int .i64 p] w fun r w' => PR w R s z f p r w' ∧ De.KB R w w' := by
  have hRl := De.heap_lt hR
  have R0 := hide (heap_below hR (below_alloc w (.cells #[.int .i64 32] 3)))
  have K0 := hide (De.KB.of (R := R) (below_alloc w (.cells #[.int .i64 32] 3)))
  have A0 := hide (At.lit w [32] 3 #[.int .i64 32] rfl)
  have HP := hide hp
  clear hR hp
  go_enter Try.func47, Try.ntmps47
  go_wp2_with fail
  refine (upTo_any R s z f _ [32] 1 _ R0.out A0.out (fun a e => by cases e; show w.heap.size ≠ R; omega) (show 1 ≤ 3 by decide) hz).mono ?_
  rw [World.size_alloc]
  rintro r w1 ⟨rfl, g1, ⟨r1, z1⟩, k1⟩
  have R1 := hide r1
  have K1 := hide (K0.out.trans k1)
  have G1 := hide g1
  clear r1 k1 g1 R0 K0 A0
  obtain ⟨i0, hi, hz0, hz1, hz2⟩ := info_parts info_op
  by_cases hfail : f = true ∨ up1 32 ((nbs s).drop z) = none
  · have hul : ul s [32] z f = ([0], z, true) := by
      rcases hfail with rfl | h
      · exact ul_t s [32] z (by simp)
      · exact ul_n s 32 [] z f h
    rw [hul] at R1 G1
    have c0 := cell_of G1.out 0
    simp [row] at c0
    have hm := run_mkG Try.underlying56 hi hz0 w1 0 (by omega) (by omega)
    simp only [Nat.zero_mul, Int.cast_ofNat_Int] at hm
    generalize madeCells (Value.cells (.agg #[.int .i64 0, .int .i64 0, .int .i64 0, .slice none 0 0, .bool false])) 0 = MC at hm
    have HF : Hid (f = true ∨ rprog p s z = none) := by
      rcases hfail with h | h
      · exact .inl h
      · right; simp [rprog, h]
    clear hfail hul
    have R3 := hide (heap_below R1.out (below_alloc w1 (.cells MC 24)))
    have K3 := hide (K1.out.trans (De.KB.of (below_alloc w1 (.cells MC 24))))
    go_wp2_with fail
    refine wp_loop_rounds 1 ?_
    rw [rounds_succ]
    go_wp2_with fail
    go_ret
    exact ⟨.inl ⟨HF.out, ⟨_, _, rfl⟩, z, hz, R3.out⟩, K3.out⟩
  · have hff : f = false := by
      cases f
      · rfl
      · exact absurd (.inl rfl) hfail
    subst hff
    obtain ⟨⟨n, k⟩, hu⟩ : ∃ q, up1 32 ((nbs s).drop z) = some q := by
      cases h : up1 32 ((nbs s).drop z) with
      | none => exact absurd (.inr h) hfail
      | some q => exact ⟨q, rfl⟩
    have hul := ul_s s 32 [] z n k hu
    rw [hul] at R1 G1 z1
    simp only [ul] at R1 G1 z1
    have c0 := cell_of G1.out 0
    simp [row] at c0
    have hn32 : n ≤ 32 := by
      unfold up1 at hu
      split at hu
      · cases hu
      · split at hu
        · simp at hu; omega
        · cases hu
    have hm := run_mkG Try.underlying56 hi hz0 w1 n (by rw [hz2]; omega) (by omega)
    have hMC : (madeCells (Value.cells (.agg #[.int .i64 0, .int .i64 0, .int .i64 0, .slice none 0 0, .bool false])) (n * i0.size)).size = n * 5 := by rw [size_madeCells, hz1]
    generalize madeCells (Value.cells (.agg #[.int .i64 0, .int .i64 0, .int .i64 0, .slice none 0 0, .bool false])) (n * i0.size) = MC at hm hMC
    have HU := hide hu
    clear hfail hul hu hi hz0 hz1 hz2
    have O2 := hide (OR.new w1 n MC 24 hMC)
    have R2 := hide (heap_below R1.out (below_alloc w1 (.cells MC 24)))
    have K2 := hide (K1.out.trans (De.KB.of (below_alloc w1 (.cells MC 24))))
    have s1 := K1.out.size
    have hW : Hid (w1.heap.size < (w1.alloc (.cells MC 24)).heap.size) := by show _ < _; simp
    go_wp2_with fail
    generalize w1.alloc (.cells MC 24) = W at O2 R2 K2 hW ⊢
    go_loopw [18] (fun i wr => ∃ (j y : Nat) (l : List OpD), j ≤ n ∧ i = .int .i64 j ∧ y ≤ s.size ∧ rops p s (z + k) j = some (l, y) ∧ (RD2 wr R s y false ∧ OR wr w1.heap.size n ∧ OF wr (w1.heap.size + 1) w1.heap.size l) ∧ De.KB R w wr ∧ w1.heap.size < wr.heap.size) (fun i _ => n - (intOf i).toNat)
    case atStart => exact ⟨0, z + k, [], Nat.zero_le _, rfl, z1, rfl, ⟨R2.out, O2.out, fun t o ht => by simp at ht⟩, K2.out, hW.out⟩
    case round =>
      clear O2 R2 K2 hW R1 K1 G1 c0 hm hMC
      obtain ⟨j, y, l, hj, rfl, hy, hro, ⟨r3, o3, of3⟩, k3, l3⟩ := hrel
      have RO := hide hro
      have R3 := hide r3
      have O3 := hide o3
      have F3 := hide of3
      have K3 := hide k3
      obtain ⟨⟨d0, d1⟩, g0, g1⟩ := rd_cells r3
      clear hro r3 o3 of3 k3
      by_cases hjn : j < n
      · have hjn' : (j : Int) < (n : Int) := by omega
        go_wp2_with fail
        refine (decode_main_f _ p _ HP.out).mono ?_
        obtain ⟨⟨ok, oo, ob, cs, od⟩, S1, ff, hrop⟩ : ∃ o S1 ff, rop (s.extract y s.size) false = (o, S1, ff) := ⟨_, _, _, rfl⟩
        rw [hrop]
        have HRO := hide hrop
        clear hrop
        rintro r w4 ⟨⟨hf, rfl⟩ | ⟨h1, h2, oa, c, rfl, hA, hF⟩, b4⟩
        · have DN : Hid (dop p (s.extract y s.size) = none) := by
            show _ = _
            unfold dop
            rw [HRO.out, if_neg]
            rintro ⟨e1, e2⟩
            simp only at e1 e2
            rw [e1, e2] at hf
            simp at hf
          have NO : Hid (rprog p s z = none) := by
            show _ = _
            unfold rprog
            rw [HU.out]
            exact rops_stop RO.out DN.out n hjn
          have R4 := hide (heap_below R3.out (btr b4 (below_alloc w4 (.cells #[.int .i64 0, .int .i64 0, .int .i64 0, .slice none 0 0, .bool false] 24))))
          have K4 := hide (K3.out.trans (De.KB.of (btr b4 (below_alloc w4 (.cells #[.int .i64 0, .int .i64 0, .int .i64 0, .slice none 0 0, .bool false] 24)))))
          obtain ⟨⟨e0, e1⟩, q0, q1⟩ := rd_cells R4.out
          clear b4 hf
          go_wp2_with fail
          go_ret
          exact ⟨.inl ⟨.inr NO.out, ⟨none, 0, rfl⟩, y, hy, rd_set1 R4.out⟩, K4.out.setCell 1 _⟩
        · simp only at h1 h2
          subst h1
          have DS : Hid (dop p (s.extract y s.size) = some (⟨ok, oo, ob, cs, od⟩, (eop ⟨ok, oo, ob, cs, od⟩).length)) := by
            show _ = _
            unfold dop
            rw [HRO.out, if_pos ⟨rfl, h2⟩]
          obtain ⟨e1, e2, -, -, -⟩ := dop_rest hy DS.out
          rw [HRO.out] at e1
          simp only at e1
          subst e1
          have NX := hide (rops_next RO.out DS.out)
          generalize (eop ⟨ok, oo, ob, cs, od⟩).length = kk at NX e2
          have c4 := (chk_zero h2).2.2.1
          simp only at c4
          have s4 := b4.size
          have B5 := hide (btr b4 (below_alloc w4 (.cells #[.int .i64 ok, .int .i64 oo, .int .i64 ob, .slice oa cs.length c, .bool od] 24)))
          have R5 := hide (heap_below R3.out B5.out)
          have K5 := hide (K3.out.trans (De.KB.of B5.out))
          have F5 := hide (F3.out.kb (De.KB.of (R := R) B5.out) (by omega) (by omega))
          have O5 := hide (O3.out.kb (De.KB.of (R := R) B5.out) l3 (by omega))
          have C5 := hide (hA.below (below_alloc w4 (.cells #[.int .i64 ok, .int .i64 oo, .int .i64 ob, .slice oa cs.length c, .bool od] 24)))
          have HF := hide hF
          have W5 : Hid (w1.heap.size < (w4.alloc (.cells #[.int .i64 ok, .int .i64 oo, .int .i64 ob, .slice oa cs.length c, .bool od] 24)).heap.size) := by show _ < _; simp; omega
          obtain ⟨⟨y0, y1⟩, q0, q1⟩ := rd_cells R5.out
          have LL := hide (rops_len RO.out)
          obtain ⟨x0, v0⟩ := Option.isSome_iff_exists.1 (O5.out.1 (j * 5) (by omega))
          obtain ⟨x1, v1⟩ := Option.isSome_iff_exists.1 (O5.out.1 (j * 5 + 1) (by omega))
          obtain ⟨x2, v2⟩ := Option.isSome_iff_exists.1 (O5.out.1 (j * 5 + 2) (by omega))
          obtain ⟨x3, v3⟩ := Option.isSome_iff_exists.1 (O5.out.1 (j * 5 + 3) (by omega))
          obtain ⟨x4, v4⟩ := Option.isSome_iff_exists.1 (O5.out.1 (j * 5 + 4) (by omega))
          have u0 := O5.out.2 (j * 5)
          have u1 := O5.out.2 (j * 5 + 1)
          have u2 := O5.out.2 (j * 5 + 2)
          have u3 := O5.out.2 (j * 5 + 3)
          have u4' := O5.out.2 (j * 5 + 4)
          have W := hide (heap_new w4 (.cells #[.int .i64 ok, .int .i64 oo, .int .i64 ob, .slice oa cs.length c, .bool od] 24))
          clear b4 hA hF h2
          go_wp2_with fail
          generalize hWW : w4.alloc (.cells #[.int .i64 ok, .int .i64 oo, .int .i64 ob, .slice oa cs.length c, .bool od] 24) = WW at *
          have FS := F5.out.store O5.out (Nat.lt_succ_self _) LL.out hjn ⟨ok, oo, ob, cs, od⟩ oa c C5.out (fun a e => by have := HF.out a e; omega) (Nat.le_trans c4 (by decide)) _ rfl
          have KG : De.KB w1.heap.size WW (((((WW.setCell ⟨w1.heap.size, j * 5, none⟩ (.int .i64 ok)).setCell ⟨w1.heap.size, j * 5 + 1, none⟩ (.int .i64 oo)).setCell ⟨w1.heap.size, j * 5 + 2, none⟩ (.int .i64 ob)).setCell ⟨w1.heap.size, j * 5 + 3, none⟩ (.slice oa cs.length c)).setCell ⟨w1.heap.size, j * 5 + 4, none⟩ (.bool od)) :=
            (((((De.KB.refl w1.heap.size WW).setCell (j * 5) _).setCell (j * 5 + 1) _).setCell (j * 5 + 2) _).setCell (j * 5 + 3) _).setCell (j * 5 + 4) _
          have sG := KG.size
          have w5 := W5.out
          go_roundw
          case rel =>
            refine ⟨j + 1, y + kk, l ++ [⟨ok, oo, ob, cs, od⟩], by omega, by go_num, e2, NX.out, ⟨rd_set0 (KG.heap R5.out (by omega)), ?_, ?_⟩, ?_, ?_⟩
            · exact FS.2.kb ((De.KB.refl R _).setCell 0 _) (Nat.lt_of_lt_of_le w5 sG) (by omega)
            · exact FS.1.kb ((De.KB.refl R _).setCell 0 _) (by omega) (by omega)
            · exact (kb_setCell (kb_setCell (kb_setCell (kb_setCell (kb_setCell K5.out s1 _ _) s1 _ _) s1 _ _) s1 _ _) s1 _ _).setCell 0 _
            · exact Nat.lt_of_lt_of_le w5 (Nat.le_trans sG ((De.KB.refl R _).setCell 0 _).size)
          case measure => simp [intOf]; omega
      · have hjn' : ¬ ((j : Int) < (n : Int)) := by omega
        obtain rfl : j = n := by omega
        have LL := hide (rops_len RO.out)
        have RP : Hid (rprog p s z = some (l, y)) := by
          show _ = _
          unfold rprog
          rw [HU.out]
          exact RO.out
        go_wp2_with fail
        go_ret
        exact ⟨.inr ⟨rfl, l, y, w1.heap.size, j, RP.out, by rw [LL.out]; rfl, ⟨F3.out, by omega, by rw [LL.out]; omega⟩, hy, R3.out⟩, K3.out⟩
end Sh
end Go.Proofs.Ytocmdehpbipmlaa
/- Package sheet: Decode, over this seat's program. -/
namespace Go.Proofs.Ytocmdehpbipmlaa
open Go.ChangeShapes Go.WideShapes Go.ChangeAt Go.RowKit
namespace Sh
open De Ba Re

/-- so many programs from z on, of p programs, and where one stands behind them -/
def rprogs (p : Int) (s : ByteArray) (z : Nat) : Nat → Option (List (List OpD) × Nat)
  | 0 => some ([], z)
  | n + 1 => match rprogs p s z n with
    | none => none
    | some (l, y) => match rprog p s y with
      | none => none
      | some (q, y') => some (l ++ [q], y')
theorem rprogs_stop {p : Int} {s : ByteArray} {z j : Nat} {l : List (List OpD)} {y : Nat} (h : rprogs p s z j = some (l, y)) (hd : rprog p s y = none) : ∀ n, j < n → rprogs p s z n = none := by
  intro n hn
  obtain ⟨d, rfl⟩ : ∃ d, n = j + 1 + d := ⟨n - (j + 1), by omega⟩
  clear hn
  induction d with
  | zero => simp [rprogs, h, hd]
  | succ d ih => rw [← Nat.add_assoc, rprogs, ih]
theorem rprogs_next {p : Int} {s : ByteArray} {z j : Nat} {l : List (List OpD)} {y y' : Nat} {q : List OpD} (h : rprogs p s z j = some (l, y)) (hd : rprog p s y = some (q, y')) : rprogs p s z (j + 1) = some (l ++ [q], y') := by
  simp [rprogs, h, hd]
theorem rprogs_len {p : Int} {s : ByteArray} {z j : Nat} {l : List (List OpD)} {y : Nat} (h : rprogs p s z j = some (l, y)) : l.length = j := by
  induction j generalizing l y with
  | zero => simp [rprogs] at h; simp [h.1.symm]
  | succ j ih =>
    unfold rprogs at h
    split at h
    · cases h
    · rename_i l' y' h'
      split at h
      · cases h
      · simp at h
        rw [← h.1]
        simp [ih h']
/-- a script's head -/
def shead (s : ByteArray) : Option (Nat × Nat × Nat × Nat) := match up1 256 (nbs s) with
  | none => none
  | some (t, k1) => match up1 1048576 ((nbs s).drop k1) with
    | none => none
    | some (m, k2) => match up1 8 ((nbs s).drop (k1 + k2)) with
      | none => none
      | some (n, k3) => some (t, m, n, k1 + k2 + k3)
/-- the script that bytes are -/
def sdec (s : ByteArray) : Option Sc := match shead s with
  | none => none
  | some (t, m, n, z3) => match rprogs n s z3 n with
    | none => none
    | some (ps, z) => match tl ((nbs s).drop z) 200 with
      | .error _ => none
      | .ok (xs, k5) => match tl ((nbs s).drop (z + k5)) 64 with
        | .error _ => none
        | .ok (ys, k6) => if z + k5 + k6 = s.size ∧ schk ⟨t, m, ps, mv (-1) xs, ys⟩ = 0 then some ⟨t, m, ps, mv (-1) xs, ys⟩ else none
theorem up1_le {m : Int} {L : List Nat} {n k : Nat} (h : up1 m L = some (n, k)) : (n : Int) ≤ m ∧ k ≤ L.length := by
  unfold up1 at h
  split at h
  · cases h
  · rename_i n' k' ht
    split at h
    · simp at h
      obtain ⟨rfl, rfl⟩ := h
      exact ⟨by assumption, (Re.tk_le ht).2⟩
    · cases h
theorem ul3 (s : ByteArray) : (∃ (t m : Int) (z : Nat), ul s [256, 1048576, 8] 0 false = ([t, m, 0], z, true) ∧ shead s = none) ∨ (∃ t m n z : Nat, ul s [256, 1048576, 8] 0 false = ([(t : Int), (m : Int), (n : Int)], z, false) ∧ shead s = some (t, m, n, z) ∧ n ≤ 8) := by
  cases h1 : up1 256 (nbs s) with
  | none => exact .inl ⟨0, 0, 0, by rw [ul_n s 256 [1048576, 8] 0 false (by rw [List.drop_zero]; exact h1)]; rfl, by simp [shead, h1]⟩
  | some q1 =>
    obtain ⟨t, k1⟩ := q1
    have e1 := ul_s s 256 [1048576, 8] 0 t k1 (by rw [List.drop_zero]; exact h1)
    rw [Nat.zero_add] at e1
    cases h2 : up1 1048576 ((nbs s).drop k1) with
    | none =>
      have e2 := ul_n s 1048576 [8] k1 false h2
      exact .inl ⟨(t : Int), 0, k1, by rw [e1, e2]; rfl, by simp [shead, h1, h2]⟩
    | some q2 =>
      obtain ⟨m, k2⟩ := q2
      have e2 := ul_s s 1048576 [8] k1 m k2 h2
      cases h3 : up1 8 ((nbs s).drop (k1 + k2)) with
      | none =>
        have e3 := ul_n s 8 [] (k1 + k2) false h3
        exact .inl ⟨(t : Int), (m : Int), k1 + k2, by rw [e1, e2, e3]; rfl, by simp [shead, h1, h2, h3]⟩
      | some q3 =>
        obtain ⟨n, k3⟩ := q3
        have e3 := ul_s s 8 [] (k1 + k2) n k3 h3
        exact .inr ⟨t, m, n, k1 + k2 + k3, by rw [e1, e2, e3]; rfl, by simp [shead, h1, h2, h3], by have := (up1_le h3).1; omega⟩

theorem info_pr : (Try.prog.info? 56).map (fun i => (i.zero, i.size, i.bytes)) = some (some (.slice none 0 0), 1, 24) := by kernel_rfl
/-- what Decode keeps: the answer's room at Z, the reader at R, the programs at G, the script at B -/
theorem sx0' (s : ByteArray) : s.extract 0 s.size = s := nbs_inj (by rw [nbs_sfx]; rfl)
structure DC (w wr : World) (R G B : Nat) (s : ByteArray) (z : Nat) (f : Bool) (T M : Int) (n : Nat) (arr : Array Value) (v3 v4 : Value) : Prop where
  res : wr.heap[w.heap.size]? = some (.cells #[.int .i64 0, .int .i64 0, .slice none 0 0, .slice none 0 0, .slice none 0 0] 38 (0, 0))
  rd : RD2 wr R s z f
  sc : wr.heap[B]? = some (.cells #[.int .i64 T, .int .i64 M, .slice (some ⟨G, 0, none⟩) n n, v3, v4] 38 (0, 0))
  pr : wr.heap[G]? = some (.cells arr 56 (0, 0))
  sz : arr.size = n
  bel : Below w.heap.size w wr
  ne : w.heap.size < R ∧ R < G ∧ R < B ∧ G ≠ B
theorem DC.kb {w wr wr' : World} {R G B : Nat} {s : ByteArray} {z z' : Nat} {f f' : Bool} {T M : Int} {n : Nat} {arr : Array Value} {v3 v4 : Value} (h : DC w wr R G B s z f T M n arr v3 v4) (k : De.KB R wr wr') (hr : RD2 wr' R s z' f') : DC w wr' R G B s z' f' T M n arr v3 v4 := by
  have hn := h.ne
  exact ⟨k.heap h.res (by omega), hr, k.heap h.sc (by omega), k.heap h.pr (by omega), h.sz, De.KB.below h.bel k (by omega), hn⟩
theorem DC.below {w wr wr' : World} {R G B : Nat} {s : ByteArray} {z : Nat} {f : Bool} {T M : Int} {n : Nat} {arr : Array Value} {v3 v4 : Value} (h : DC w wr R G B s z f T M n arr v3 v4) (hb : Below wr.heap.size wr wr') : DC w wr' R G B s z f T M n arr v3 v4 :=
  ⟨heap_below h.res hb, heap_below h.rd hb, heap_below h.sc hb, heap_below h.pr hb, h.sz, btr h.bel hb, h.ne⟩

theorem DC.start {w w1 w2 : World} {G B : Nat} {s : ByteArray} {z : Nat} {f : Bool} {T M : Int} {n : Nat} {MC : Array Value} (hz : w1.heap[w.heap.size]? = some (.cells #[.int .i64 0, .int .i64 0, .slice none 0 0, .slice none 0 0, .slice none 0 0] 38 (0, 0))) (hr : RD2 w1 (w.heap.size + 1) s z f) (hb : Below w.heap.size w w1) (hm : MC.size = n) (h12 : Below w1.heap.size w1 w2) (hG : w2.heap[G]? = some (.cells MC 56 (0, 0))) (hB : w2.heap[B]? = some (.cells #[.int .i64 T, .int .i64 M, .slice (some ⟨G, 0, none⟩) n n, .slice none 0 0, .slice none 0 0] 38 (0, 0))) (hn : w.heap.size + 1 < G ∧ w.heap.size + 1 < B ∧ G ≠ B) : DC w w2 (w.heap.size + 1) G B s z f T M n MC (.slice none 0 0) (.slice none 0 0) :=
  ⟨heap_below hz h12, heap_below hr h12, hB, hG, hm, btr hb h12, by omega, hn⟩
theorem DC.store {w wr : World} {R G B : Nat} {s : ByteArray} {z : Nat} {f : Bool} {T M : Int} {n : Nat} {arr : Array Value} {v3 v4 : Value} (h : DC w wr R G B s z f T M n arr v3 v4) (k : Nat) (v : Value) : DC w (wr.setCell ⟨G, k, none⟩ v) R G B s z f T M n (arr.setIfInBounds k v) v3 v4 := by
  have hn := h.ne
  refine ⟨?_, ?_, ?_, Ba.heap_setCell_same h.pr v, by rw [Array.size_setIfInBounds]; exact h.sz, h.bel.setCell (by show w.heap.size ≤ G; omega) _, hn⟩
  · exact (Below.heap_setCell _ _ _ _ (by show w.heap.size ≠ G; omega)).trans h.res
  · exact (Below.heap_setCell _ _ _ _ (by show R ≠ G; omega)).trans h.rd
  · exact (Below.heap_setCell _ _ _ _ (by show B ≠ G; omega)).trans h.sc
theorem DC.set3 {w wr : World} {R G B : Nat} {s : ByteArray} {z : Nat} {f : Bool} {T M : Int} {n : Nat} {arr : Array Value} {v3 v4 : Value} (h : DC w wr R G B s z f T M n arr v3 v4) (v : Value) : DC w (wr.setCell ⟨B, 3, none⟩ v) R G B s z f T M n arr v v4 := by
  have hn := h.ne
  refine ⟨?_, ?_, Ba.heap_setCell_same h.sc v, ?_, h.sz, h.bel.setCell (by show w.heap.size ≤ B; omega) _, hn⟩
  · exact (Below.heap_setCell _ _ _ _ (by show w.heap.size ≠ B; omega)).trans h.res
  · exact (Below.heap_setCell _ _ _ _ (by show R ≠ B; omega)).trans h.rd
  · exact (Below.heap_setCell _ _ _ _ (by show G ≠ B; omega)).trans h.pr
theorem DC.set4 {w wr : World} {R G B : Nat} {s : ByteArray} {z : Nat} {f : Bool} {T M : Int} {n : Nat} {arr : Array Value} {v3 v4 : Value} (h : DC w wr R G B s z f T M n arr v3 v4) (v : Value) : DC w (wr.setCell ⟨B, 4, none⟩ v) R G B s z f T M n arr v3 v := by
  have hn := h.ne
  refine ⟨?_, ?_, Ba.heap_setCell_same h.sc v, ?_, h.sz, h.bel.setCell (by show w.heap.size ≤ B; omega) _, hn⟩
  · exact (Below.heap_setCell _ _ _ _ (by show w.heap.size ≠ B; omega)).trans h.res
  · exact (Below.heap_setCell _ _ _ _ (by show R ≠ B; omega)).trans h.rd
  · exact (Below.heap_setCell _ _ _ _ (by show G ≠ B; omega)).trans h.pr
/-- programs in a row of slices: each in a block of its own, from N on -/
def PF (w : World) (N : Nat) (arr : Array Value) (ps : List (List OpD)) : Prop :=
  ∀ (t : Nat) (q : List OpD), ps[t]? = some q → ∃ (g c : Nat), arr[t]? = some (.slice (some ⟨g, 0, none⟩) q.length c) ∧ OF w (g + 1) g q ∧ N ≤ g ∧ q.length ≤ 1000
theorem PF.kb {w w' : World} {N R : Nat} {arr : Array Value} {ps : List (List OpD)} (h : PF w N arr ps) (k : De.KB R w w') (hR : R < N) : PF w' N arr ps := by
  intro t q ht
  obtain ⟨g, c, h1, h2, h3, h4⟩ := h t q ht
  exact ⟨g, c, h1, h2.kb k (by omega) (by omega), h3, h4⟩
theorem PF.store {w : World} {N : Nat} {arr : Array Value} {ps : List (List OpD)} (h : PF w N arr ps) (k : Nat) (hk : ps.length = k) (hs : k < arr.size) (g c : Nat) (q : List OpD) (hq : OF w (g + 1) g q) (hN : N ≤ g) (h32 : q.length ≤ 1000) : PF w N (arr.setIfInBounds k (.slice (some ⟨g, 0, none⟩) q.length c)) (ps ++ [q]) := by
  intro t x ht
  by_cases e : t < ps.length
  · rw [List.getElem?_append_left e] at ht
    obtain ⟨g', c', h1, h2, h3, h4⟩ := h t x ht
    exact ⟨g', c', by rw [Array.getElem?_setIfInBounds_ne (by omega)]; exact h1, h2, h3, h4⟩
  · have hl := (List.getElem?_eq_some_iff.1 ht).1
    rw [List.length_append, List.length_cons, List.length_nil] at hl
    have : t = k := by omega
    subst this
    rw [List.getElem?_append_right (by omega), hk, Nat.sub_self] at ht
    simp at ht
    subst ht
    exact ⟨g, c, by rw [Array.getElem?_setIfInBounds_self_of_lt hs], hq, hN, h32⟩
theorem PF.at {w : World} {N G : Nat} {arr : Array Value} {ps : List (List OpD)} {t : TypeId} (h : PF w N arr ps) (hg : w.heap[G]? = some (.cells arr t (0, 0))) : PAt w (some ⟨G, 0, none⟩) ps := by
  intro k q hk
  obtain ⟨g, c, h1, h2, _, h4⟩ := h k q hk
  exact ⟨G, 0, _, _, rfl, by rw [Nat.zero_add, cell_of hg]; exact h1, h2.at, by unfold maxLen; omega⟩
/-- what the reader's program leaves, its slice apart -/
def PRS (w : World) (R : Nat) (s : ByteArray) (z : Nat) (f : Bool) (p : Int) (oa : Option Addr) (m c : Nat) (w' : World) : Prop :=
  ((f = true ∨ rprog p s z = none) ∧ m = 0 ∧ ∃ y, y ≤ s.size ∧ RD2 w' R s y true) ∨
  (f = false ∧ ∃ q y g, rprog p s z = some (q, y) ∧ (oa = some ⟨g, 0, none⟩ ∧ m = q.length ∧ c = c) ∧ (OF w' (g + 1) g q ∧ w.heap.size ≤ g ∧ q.length ≤ 32) ∧ y ≤ s.size ∧ RD2 w' R s y false)
theorem PR.slice {w : World} {R : Nat} {s : ByteArray} {z : Nat} {f : Bool} {p : Int} {r : Ending} {w' : World} (h : PR w R s z f p r w') : ∃ oa m c, r = .returned (.slice oa m c) ∧ PRS w R s z f p oa m c w' := by
  rcases h with ⟨h1, ⟨oa, c, h2⟩, h3⟩ | ⟨h1, q, y, g, c, h2, h3, h4⟩
  · exact ⟨oa, 0, c, h2, .inl ⟨h1, rfl, h3⟩⟩
  · exact ⟨_, _, c, h3, .inr ⟨h1, q, y, g, h2, ⟨rfl, rfl, rfl⟩, h4⟩⟩
/-- what the head has told -/
def HD (s : ByteArray) (T M : Int) (n z : Nat) (f : Bool) : Prop := (f = true ∧ sdec s = none) ∨ (f = false ∧ ∃ t m : Nat, T = t ∧ M = m ∧ shead s = some (t, m, n, z))
/-- how far programs are read -/
def LP (s : ByteArray) (T M : Int) (n z k y : Nat) (f : Bool) (w : World) (N : Nat) (arr : Array Value) (ps : List (List OpD)) : Prop := (f = true ∧ sdec s = none) ∨ (f = false ∧ (∃ t m : Nat, T = t ∧ M = m ∧ shead s = some (t, m, n, z)) ∧ rprogs n s z k = some (ps, y) ∧ PF w N arr ps)
/-- what Decode answers -/
def DRes (s : ByteArray) (r : Ending) (w' : World) : Prop :=
  (sdec s = none ∧ r = .returned (.tuple #[.agg #[.int .i64 0, .int .i64 0, .slice none 0 0, .slice none 0 0, .slice none 0 0], .int .i64 4])) ∨
  ∃ T M ps pl dr pa la da pc lc dc, sdec s = some ⟨T, M, ps, pl, dr⟩ ∧ r = .returned (.tuple #[.agg #[.int .i64 T, .int .i64 M, .slice pa ps.length pc, .slice la pl.length lc, .slice da dr.length dc], .int .i64 0]) ∧ SAt w' ⟨T, M, ps, pl, dr⟩ pa la da
theorem tst_bd {L : List Nat} : ∀ {i : Nat} {xs : List Int} {o : Nat}, tst L i = some (xs, o) → ∀ x ∈ xs, 0 ≤ x ∧ x ≤ 1099511627776
  | 0, xs, o, h => by
    simp [tst] at h
    obtain ⟨rfl, rfl⟩ := h
    intro x hx
    cases hx
  | i + 1, xs, o, h => by
    unfold tst at h
    split at h
    · cases h
    · rename_i ys o' hq
      split at h
      · cases h
      · rename_i x k ht
        simp at h
        obtain ⟨rfl, rfl⟩ := h
        intro y hy
        rw [List.mem_append] at hy
        rcases hy with hy | hy
        · exact tst_bd hq y hy
        · simp at hy
          subst hy
          have := Re.tk_bound ht
          omega
theorem tl_bd {L : List Nat} {most : Int} {xs : List Int} {z : Nat} (h : tl L most = .ok (xs, z)) : (∀ x ∈ xs, 0 ≤ x ∧ x ≤ 1099511627776) ∧ (xs.length : Int) ≤ most := by
  unfold tl at h
  cases ht : tk L with
  | none => rw [ht] at h; simp at h
  | some p =>
    obtain ⟨n, k⟩ := p
    rw [ht] at h
    simp only at h
    by_cases hm : most < (n : Int)
    · rw [if_pos hm] at h; simp at h
    · rw [if_neg hm] at h
      cases hq : tst (L.drop k) n with
      | none => rw [hq] at h; simp at h
      | some p =>
        obtain ⟨ys, o⟩ := p
        rw [hq] at h
        simp at h
        obtain ⟨rfl, rfl⟩ := h
        have hl := (tst_some hq).1
        exact ⟨tst_bd hq, by omega⟩
theorem sx_end (s : ByteArray) (z : Nat) (h : z ≤ s.size) : (s.extract z s.size).toList.isEmpty = decide (z = s.size) := by
  rw [toList_is]
  have h1 : (s.extract z s.size).data.toList.length = s.size - z := by
    show (s.extract z s.size).size = _
    rw [ByteArray.size_extract]
    omega
  cases hl : (s.extract z s.size).data.toList with
  | nil =>
    rw [hl] at h1
    simp at h1
    simp
    omega
  | cons a t =>
    rw [hl] at h1
    simp at h1
    simp
    omega
theorem size_sc : (Try.prog.info? 38).map (·.size) = some 5 := by kernel_rfl
theorem loadVar_sc {w : World} {b : Nat} {c : Array Value} {t : TypeId} (h : w.heap[b]? = some (.cells c t (0, 0))) (hc : c.size = 5) : (loadVar 38 ⟨b, 0, none⟩).run Try.prog w = .ok (.agg c) w :=
  run_loadVar_row w b t _ _ _ _ h Try.underlying38 rfl (by rw [size_sc, hc])
theorem sdec_head {s : ByteArray} (h : shead s = none) : sdec s = none := by simp [sdec, h]
theorem sdec_progs {s : ByteArray} {t m n z : Nat} (h : shead s = some (t, m, n, z)) (hp : rprogs n s z n = none) : sdec s = none := by simp [sdec, h, hp]
theorem sdec_plan {s : ByteArray} {t m n z y : Nat} {ps : List (List OpD)} {e : Int} (h : shead s = some (t, m, n, z)) (hp : rprogs n s z n = some (ps, y)) (hl : tl ((nbs s).drop y) 200 = .error e) : sdec s = none := by simp [sdec, h, hp, hl]
theorem sdec_draws {s : ByteArray} {t m n z y k : Nat} {ps : List (List OpD)} {xs : List Int} {e : Int} (h : shead s = some (t, m, n, z)) (hp : rprogs n s z n = some (ps, y)) (hl : tl ((nbs s).drop y) 200 = .ok (xs, k)) (hd : tl ((nbs s).drop (y + k)) 64 = .error e) : sdec s = none := by simp [sdec, h, hp, hl, hd]
theorem sdec_end {s : ByteArray} {t m n z y k k' : Nat} {ps : List (List OpD)} {xs ys : List Int} (h : shead s = some (t, m, n, z)) (hp : rprogs n s z n = some (ps, y)) (hl : tl ((nbs s).drop y) 200 = .ok (xs, k)) (hd : tl ((nbs s).drop (y + k)) 64 = .ok (ys, k')) : sdec s = if y + k + k' = s.size ∧ schk ⟨t, m, ps, mv (-1) xs, ys⟩ = 0 then some ⟨t, m, ps, mv (-1) xs, ys⟩ else none := by simp only [sdec, h, hp, hl, hd]

theorem scheck_len (T M : Int) (ps : List (List OpD)) (pl dr : List Int) (pa la da : Option Addr) (pc lc dc n xl yl : Nat) (hn : ps.length = n) (hx : pl.length = xl) (hy : dr.length = yl) (w : World) (hS : SAt w ⟨T, M, ps, pl, dr⟩ pa la da) :
    Calls Try.prog 17 #[.agg #[.int .i64 T, .int .i64 M, .slice pa n pc, .slice la xl lc, .slice da yl dc]] w fun r w' => r = .returned (.int .i64 (schk ⟨T, M, ps, pl, dr⟩)) ∧ Below w.heap.size w w' := by
  subst hn hx hy
  exact scheck_any T M ps pl dr pa la da pc lc dc w hS
theorem LP.next {w wr w2 : World} {R G B N : Nat} {s : ByteArray} {y zz k n : Nat} {fk : Bool} {T M : Int} {arr : Array Value} {ps : List (List OpD)} {oa : Option Addr} {m c : Nat} {v3 v4 : Value} (D1 : DC w wr R G B s y fk T M n arr v3 v4) (hNw : N ≤ wr.heap.size) (hNG : G < N) (hNR : R < N) (L1 : LP s T M n zz k y fk wr N arr ps) (K2 : De.KB R wr w2) (Q2 : PRS wr.drew R s y fk n oa m c w2) (hk : k < n) :
    ∃ y' f' ps', y' ≤ s.size ∧ DC w (w2.setCell ⟨G, k, none⟩ (.slice oa m c)) R G B s y' f' T M n (arr.setIfInBounds k (.slice oa m c)) v3 v4 ∧ N ≤ (w2.setCell ⟨G, k, none⟩ (.slice oa m c)).heap.size ∧ LP s T M n zz (k + 1) y' f' (w2.setCell ⟨G, k, none⟩ (.slice oa m c)) N (arr.setIfInBounds k (.slice oa m c)) ps' := by
  have hs2 : N ≤ (w2.setCell ⟨G, k, none⟩ (.slice oa m c)).heap.size := Nat.le_trans hNw (Nat.le_trans K2.size ((De.KB.refl G w2).setCell k (.slice oa m c)).size)
  rcases Q2 with ⟨hf, rfl, y', hy', hr⟩ | ⟨hf, q, y', g, hp, ⟨rfl, rfl, _⟩, ⟨hof, hg, h32⟩, hy', hr⟩
  · refine ⟨y', true, [], hy', (D1.kb K2 hr).store k _, hs2, .inl ⟨rfl, ?_⟩⟩
    rcases L1 with ⟨_, hn⟩ | ⟨hff, ⟨t, m', _, _, hh⟩, hrp, _⟩
    · exact hn
    · rcases hf with hf | hf
      · rw [hff] at hf; cases hf
      · exact sdec_progs hh (rprogs_stop hrp hf n hk)
  · rcases L1 with ⟨hff, _⟩ | ⟨_, hh, hrp, hpf⟩
    · rw [hf] at hff; cases hff
    · refine ⟨y', false, ps ++ [q], hy', (D1.kb K2 hr).store k _, hs2, .inr ⟨rfl, hh, rprogs_next hrp hp, ?_⟩⟩
      exact ((hpf.kb K2 hNR).store k (rprogs_len hrp) (by rw [D1.sz]; exact hk) g c q hof (Nat.le_trans hNw hg) (Nat.le_trans h32 (by decide))).kb ((De.KB.refl G w2).setCell k _) hNG

set_option maxRecDepth 100000 in
set_option maxHeartbeats 3200000 in
theorem sdecode_any (s : ByteArray) (w : World) (hs : s.size ≤ 5000000) :
    Calls Try.prog 19 #[.string s] w fun r w' => DRes s r w' ∧ Below w.heap.size w w' := by
  have R0 : Hid (RD2 ((w.alloc (.cells #[.int .i64 0, .int .i64 0, .slice none 0 0, .slice none 0 0, .slice none 0 0] 38)).alloc (.cells #[.string s, .bool false] 88)) (w.heap.size + 1) s 0 false) := by
    have := heap_new (w.alloc (.cells #[.int .i64 0, .int .i64 0, .slice none 0 0, .slice none 0 0, .slice none 0 0] 38)) (.cells #[.string s, .bool false] 88)
    rw [World.size_alloc] at this
    show _ = _
    rw [sx0']
    exact this
  have Z0 := hide (heap_below (heap_new w (.cells #[.int .i64 0, .int .i64 0, .slice none 0 0, .slice none 0 0, .slice none 0 0] 38)) (below_alloc (w.alloc (.cells #[.int .i64 0, .int .i64 0, .slice none 0 0, .slice none 0 0, .slice none 0 0] 38)) (.cells #[.string s, .bool false] 88)))
  have B0 := hide (btr (below_alloc w (.cells #[.int .i64 0, .int .i64 0, .slice none 0 0, .slice none 0 0, .slice none 0 0] 38)) (below_alloc (w.alloc (.cells #[.int .i64 0, .int .i64 0, .slice none 0 0, .slice none 0 0, .slice none 0 0] 38)) (.cells #[.string s, .bool false] 88)))
  go_enter Try.func19, Try.ntmps19
  go_wp2_with fail
  generalize hW0 : (w.alloc (.cells #[.int .i64 0, .int .i64 0, .slice none 0 0, .slice none 0 0, .slice none 0 0] 38)).alloc (.cells #[.string s, .bool false] 88) = W0 at R0 Z0 B0 ⊢
  have sW : W0.heap.size = w.heap.size + 1 + 1 := by rw [← hW0, World.size_alloc, World.size_alloc]
  have HSW := hide sW
  clear hW0 sW
  have A1 : Hid (At (W0.alloc (.cells #[.int .i64 256, .int .i64 1048576, .int .i64 8] 3)) (some ⟨w.heap.size + 1 + 1, 0, none⟩) [256, 1048576, 8]) := by
    have := At.lit W0 [256, 1048576, 8] 3 #[.int .i64 256, .int .i64 1048576, .int .i64 8] rfl
    rw [HSW.out] at this
    exact this
  have R1 := hide (heap_below R0.out (below_alloc W0 (.cells #[.int .i64 256, .int .i64 1048576, .int .i64 8] 3)))
  have Z1 := hide (heap_below Z0.out (below_alloc W0 (.cells #[.int .i64 256, .int .i64 1048576, .int .i64 8] 3)))
  have B1 := hide (btr B0.out (below_alloc W0 (.cells #[.int .i64 256, .int .i64 1048576, .int .i64 8] 3)))
  refine (upTo_any (w.heap.size + 1) s 0 false _ [256, 1048576, 8] 3 _ R1.out A1.out (fun a e => by cases e; show w.heap.size + 1 + 1 ≠ w.heap.size + 1; omega) (Nat.le_refl 3) (Nat.zero_le _)).mono ?_
  rw [World.size_alloc, HSW.out]
  rintro r w1 ⟨rfl, g1, ⟨r1, z1⟩, k1⟩
  have R2 := hide r1
  have G2 := hide g1
  have Z2 := hide (k1.heap Z1.out (by omega))
  have B2 := hide (De.KB.below B1.out k1 (by omega))
  have sw1 := De.heap_lt g1
  clear r1 g1 k1 R0 Z0 B0 R1 Z1 B1 A1
  obtain ⟨i0, hi, hz0, hz1, hz2⟩ := info_parts info_pr
  obtain ⟨T, M, n, zz, f, hul, hn8, hhd⟩ : ∃ (T M : Int) (n : Nat) (zz : Nat) (f : Bool), ul s [256, 1048576, 8] 0 false = ([T, M, (n : Int)], zz, f) ∧ n ≤ 8 ∧ HD s T M n zz f := by
    rcases ul3 s with ⟨t, m, z, h, h2⟩ | ⟨t, m, n, z, h, h2, h8⟩
    · exact ⟨t, m, 0, z, true, h, by decide, .inl ⟨rfl, sdec_head h2⟩⟩
    · exact ⟨t, m, n, z, false, h, h8, .inr ⟨rfl, t, m, rfl, rfl, h2⟩⟩
  have HH := hide hhd
  clear hhd
  rw [hul] at R2 G2 z1
  simp only at R2 z1
  have c0 := cell_of G2.out 0
  have c1 := cell_of G2.out 1
  have c2 := cell_of G2.out 2
  simp [row] at c0 c1 c2
  have hm := fun w => run_mkG Try.underlying35 hi hz0 w n (by rw [hz2]; omega) (by omega)
  have hMC : (madeCells (Value.cells (.slice none 0 0)) (n * i0.size)).size = n := by rw [size_madeCells, hz1, Nat.mul_one]
  generalize madeCells (Value.cells (.slice none 0 0)) (n * i0.size) = MC at hm hMC
  clear hul hi hz0 hz1 hz2
  have c0a : ∀ o1, (w1.alloc o1).cell? ⟨w.heap.size + 1 + 1 + 1, 0, none⟩ = some (.int .i64 T) := fun o1 => cellB c0 (below_alloc _ _)
  have c1a : ∀ o1, (w1.alloc o1).cell? ⟨w.heap.size + 1 + 1 + 1, 1, none⟩ = some (.int .i64 M) := fun o1 => cellB c1 (below_alloc _ _)
  have c2a : ∀ o1, (w1.alloc o1).cell? ⟨w.heap.size + 1 + 1 + 1, 2, none⟩ = some (.int .i64 (n : Int)) := fun o1 => cellB c2 (below_alloc _ _)
  have c0b : ∀ o1 o2, ((w1.alloc o1).alloc o2).cell? ⟨w.heap.size + 1 + 1 + 1, 0, none⟩ = some (.int .i64 T) := fun o1 o2 => cellB (c0a o1) (below_alloc _ _)
  have c1b : ∀ o1 o2, ((w1.alloc o1).alloc o2).cell? ⟨w.heap.size + 1 + 1 + 1, 1, none⟩ = some (.int .i64 M) := fun o1 o2 => cellB (c1a o1) (below_alloc _ _)
  have c2b : ∀ o1 o2, ((w1.alloc o1).alloc o2).cell? ⟨w.heap.size + 1 + 1 + 1, 2, none⟩ = some (.int .i64 (n : Int)) := fun o1 o2 => cellB (c2a o1) (below_alloc _ _)
  go_wp2_with fail
  go_cut [6] (fun s6 wc => ∃ G B, s6 = .pointer (some ⟨B, 0, none⟩) ∧ DC w wc (w.heap.size + 1) G B s zz f T M n MC (.slice none 0 0) (.slice none 0 0))
  case first =>
    go_region
    all_goals
      go_wp2_with fail
      go_meet
      case rel =>
        first
          | exact ⟨w1.heap.size, w1.heap.size + 1, rfl, DC.start Z2.out R2.out B2.out hMC (btr (btr (below_alloc _ _) (below_alloc _ _)) (bdrew1 _)) (heap_below (heap_new w1 (.cells MC 56)) (btr (below_alloc _ _) (bdrew1 _))) (by
              have := heap_new (w1.alloc (.cells MC 56)) (.cells #[.int .i64 T, .int .i64 M, .slice (some ⟨w1.heap.size, 0, none⟩) n n, .slice none 0 0, .slice none 0 0] 38)
              rw [World.size_alloc] at this
              exact heap_below this (bdrew1 _)) (by omega)⟩
          | exact ⟨w1.heap.size + 1, w1.heap.size, rfl, DC.start Z2.out R2.out B2.out hMC (btr (btr (below_alloc _ _) (below_alloc _ _)) (bdrew1 _)) (by
              have := heap_new (w1.alloc (.cells #[.int .i64 T, .int .i64 M, .slice (some ⟨w1.heap.size + 1, 0, none⟩) n n, .slice none 0 0, .slice none 0 0] 38)) (.cells MC 56)
              rw [World.size_alloc] at this
              exact heap_below this (bdrew1 _)) (heap_below (heap_new w1 (.cells #[.int .i64 T, .int .i64 M, .slice (some ⟨w1.heap.size + 1, 0, none⟩) n n, .slice none 0 0, .slice none 0 0] 38)) (btr (below_alloc _ _) (bdrew1 _))) (by omega)⟩
  case rest =>
    clear c0 c1 c2 c0a c1a c2a c0b c1b c2b hm R2 G2 Z2 B2 sw1 HSW
    obtain ⟨G, B, rfl, dc⟩ := hcut
    have D0 := hide dc
    have hGB := dc.ne
    have lG := De.heap_lt dc.pr
    have lB := De.heap_lt dc.sc
    obtain ⟨N, hN⟩ : ∃ N, N = max G B + 1 := ⟨_, rfl⟩
    have hNG : G < N ∧ B < N := by omega
    have hNw : N ≤ wc.heap.size := by omega
    obtain ⟨x0, x1, x2, x3, x4⟩ := sc_cells dc.sc
    have L0 : Hid (LP s T M n zz 0 zz f wc N MC []) := by
      rcases HH.out with h | ⟨h1, h2⟩
      · exact .inl h
      · exact .inr ⟨h1, h2, rfl, fun t q ht => by simp at ht⟩
    clear dc hN hMC
    go_wp2_with fail
    go_loopw [26] (fun i wr => ∃ (k y : Nat) (fk : Bool) (arr : Array Value) (ps : List (List OpD)), k ≤ n ∧ i = .int .i64 k ∧ y ≤ s.size ∧ DC w wr (w.heap.size + 1) G B s y fk T M n arr (.slice none 0 0) (.slice none 0 0) ∧ N ≤ wr.heap.size ∧ LP s T M n zz k y fk wr N arr ps) (fun i _ => n - (intOf i).toNat)
    case atStart => exact ⟨0, zz, f, MC, [], Nat.zero_le _, rfl, z1, D0.out, hNw, L0.out⟩
    case round =>
      clear x0 x1 x2 x3 x4 D0 L0 hNw lG lB
      obtain ⟨k, y, fk, arr, ps, hk, rfl, hy, d1, hNw, l1⟩ := hrel
      have D1 := hide d1
      have L1 := hide l1
      obtain ⟨x0, x1, x2, x3, x4⟩ := sc_cells d1.sc
      clear d1 l1
      by_cases hkn : k < n
      · have hkn' : (k : Int) < (n : Int) := by omega
        have okn : okP (n : Int) = true := (okP_iff _).2 (by omega)
        have OKN := hide okn
        clear okn
        go_wp2_with fail
        go_region_with (go_at_call 47; refine (program_any (w.heap.size + 1) s y fk (n : Int) _ (heap_below D1.out.rd (bdrew1 _)) hy OKN.out).mono ?_; rintro r w2 ⟨hpr, k2⟩; obtain ⟨oa, m, c, rfl, hq⟩ := hpr.slice; have Q2 := hide hq; have K2 := hide ((De.KB.of (R := w.heap.size + 1) (bdrew1 wr)).trans k2); have S2 := hide (K2.out.heap D1.out.sc (by omega)); have P2 := hide (K2.out.heap D1.out.pr (by omega)); obtain ⟨y0, y1, y2, y3, y4⟩ := sc_cells S2.out; have fz := frozen_of P2.out k; obtain ⟨vk, hvk⟩ : ∃ v, w2.cell? ⟨G, k, none⟩ = some v := ⟨_, (cell_of P2.out k).trans (Array.getElem?_eq_getElem (by rw [D1.out.sz]; exact hkn))⟩; clear hpr hq k2)
        all_goals
          go_wp2_with fail
          go_roundw
          case rel =>
            obtain ⟨y', f', ps', h1, h2, h3, h4⟩ := LP.next D1.out hNw hNG.1 (by omega) L1.out K2.out Q2.out hkn
            exact ⟨k + 1, y', f', _, ps', by omega, by go_num, h1, h2, h3, h4⟩
          case measure => simp [intOf]; omega
      · have hkn' : ¬ ((k : Int) < (n : Int)) := by omega
        obtain rfl : k = n := by omega
        rcases L1.out with ⟨hft, hnone⟩ | ⟨hff, ⟨t, m, rfl, rfl, hsh⟩, hrp, hpf⟩
        · subst hft
          have NN := hide hnone
          clear L1 HH hnone
          go_wp2_with fail
          refine (list_no (w.heap.size + 1) s y true 200 _ D1.out.rd hs (.inl rfl)).mono ?_
          rintro r w2 ⟨rfl, rr2, k2⟩
          have D2 := hide (D1.out.kb k2 rr2)
          clear k2 rr2
          go_wp2_with fail
          refine (moved_any none [] 0 (-1) _ (At.nil _ _) (Nat.zero_le _) (by decide) (fun j hj => absurd hj (Nat.not_lt_zero _))).mono ?_
          rintro r w3 ⟨rfl, -, b3⟩
          have D3 := hide (D2.out.below b3)
          obtain ⟨y0, y1, y2, y3, y4⟩ := sc_cells D3.out.sc
          have fz3 := frozen_of D3.out.sc 3
          have D4 := hide (D3.out.set3 (.slice (some ⟨w2.heap.size, 0, none⟩) 0 0))
          clear b3
          go_wp2_with fail
          refine (list_no (w.heap.size + 1) s y true 64 _ D4.out.rd hs (.inl rfl)).mono ?_
          rintro r w5 ⟨rfl, rr5, k5⟩
          have D5 := hide (D4.out.kb k5 rr5)
          obtain ⟨u0, u1, u2, u3, u4⟩ := sc_cells D5.out.sc
          have fz4 := frozen_of D5.out.sc 4
          have D6 := hide (D5.out.set4 (.slice none 0 0))
          obtain ⟨⟨t0, t1⟩, -, -⟩ := rd_cells D6.out.rd
          obtain ⟨r0, r1, r2, r3, r4⟩ := sc_cells D6.out.res
          have q0 := frozen_of D6.out.res 0
          have q1 := frozen_of D6.out.res 1
          have q2 := frozen_of D6.out.res 2
          have q3 := frozen_of D6.out.res 3
          have q4 := frozen_of D6.out.res 4
          clear k5 rr5
          go_wp2_with fail
          exact bodyPost_ret (results_row2 Try.results19 _ _ _ _ _ rfl rfl (loadVar_sc (five_set D6.out.res _ _ _ _ _) rfl)) rfl ⟨.inl ⟨NN.out, rfl⟩, (((((D6.out.bel.setCell (Nat.le_refl _) _).setCell (Nat.le_refl _) _).setCell (Nat.le_refl _) _).setCell (Nat.le_refl _) _).setCell (Nat.le_refl _) _)⟩

        · subst hff
          have SH := hide hsh
          have RP := hide hrp
          have PFh := hide hpf
          clear L1 HH hsh hrp hpf
          cases ht2 : tl ((nbs s).drop y) 200 with
          | error e =>
            have NN := hide (sdec_plan SH.out RP.out ht2)
            have HT2 := hide ht2
            clear ht2
            go_wp2_with fail
            refine (list_no (w.heap.size + 1) s y false 200 _ D1.out.rd hs (.inr ⟨e, HT2.out⟩)).mono ?_
            rintro r w2 ⟨rfl, rr2, k2⟩
            have D2 := hide (D1.out.kb k2 rr2)
            clear k2 rr2
            go_wp2_with fail
            refine (moved_any none [] 0 (-1) _ (At.nil _ _) (Nat.zero_le _) (by decide) (fun j hj => absurd hj (Nat.not_lt_zero _))).mono ?_
            rintro r w3 ⟨rfl, -, b3⟩
            have D3 := hide (D2.out.below b3)
            obtain ⟨y0, y1, y2, y3, y4⟩ := sc_cells D3.out.sc
            have fz3 := frozen_of D3.out.sc 3
            have D4 := hide (D3.out.set3 (.slice (some ⟨w2.heap.size, 0, none⟩) 0 0))
            clear b3
            go_wp2_with fail
            refine (list_no (w.heap.size + 1) s y true 64 _ D4.out.rd hs (.inl rfl)).mono ?_
            rintro r w5 ⟨rfl, rr5, k5⟩
            have D5 := hide (D4.out.kb k5 rr5)
            obtain ⟨u0, u1, u2, u3, u4⟩ := sc_cells D5.out.sc
            have fz4 := frozen_of D5.out.sc 4
            have D6 := hide (D5.out.set4 (.slice none 0 0))
            obtain ⟨⟨t0, t1⟩, -, -⟩ := rd_cells D6.out.rd
            obtain ⟨r0, r1, r2, r3, r4⟩ := sc_cells D6.out.res
            have q0 := frozen_of D6.out.res 0
            have q1 := frozen_of D6.out.res 1
            have q2 := frozen_of D6.out.res 2
            have q3 := frozen_of D6.out.res 3
            have q4 := frozen_of D6.out.res 4
            clear k5 rr5
            go_wp2_with fail
            exact bodyPost_ret (results_row2 Try.results19 _ _ _ _ _ rfl rfl (loadVar_sc (five_set D6.out.res _ _ _ _ _) rfl)) rfl ⟨.inl ⟨NN.out, rfl⟩, (((((D6.out.bel.setCell (Nat.le_refl _) _).setCell (Nat.le_refl _) _).setCell (Nat.le_refl _) _).setCell (Nat.le_refl _) _).setCell (Nat.le_refl _) _)⟩

          | ok px =>
            obtain ⟨xs, k5⟩ := px
            have HT2 := hide ht2
            have bd := tl_bd ht2
            have sz2 := (Re.tl_size ht2).2
            rw [List.length_drop, nbs_length] at sz2
            have BD := hide bd.1
            have xl := bd.2
            clear ht2 bd
            go_wp2_with fail
            refine (list_ok (w.heap.size + 1) s y 200 xs k5 _ D1.out.rd hs HT2.out).mono ?_
            rintro r w2 ⟨b2, rfl, a2, lb2, rr2, k2⟩
            have D2 := hide (D1.out.kb k2 rr2)
            have P2 := hide (PFh.out.kb k2 (by omega))
            have A2 := hide a2
            have s2 := k2.size
            clear k2 rr2 a2
            go_wp2_with fail
            refine (moved_any _ xs xs.length (-1) _ A2.out (by omega) (by decide) (fun j hj => by
              have := BD.out (nth xs j) (by rw [nth_lt xs j hj]; exact List.getElem_mem hj)
              omega)).mono ?_
            rintro r w3 ⟨rfl, a3, b3⟩
            have s3 := b3.size
            have D3 := hide (D2.out.below b3)
            have P3 := hide (P2.out.kb (De.KB.of (R := w.heap.size + 1) b3) (by omega))
            obtain ⟨y0, y1, y2, y3, y4⟩ := sc_cells D3.out.sc
            have fz3 := frozen_of D3.out.sc 3
            have D4 := hide (D3.out.set3 (.slice (some ⟨w2.heap.size, 0, none⟩) xs.length xs.length))
            have P4 := hide (P3.out.kb ((De.KB.refl B w3).setCell 3 (.slice (some ⟨w2.heap.size, 0, none⟩) xs.length xs.length)) hNG.2)
            have A4 := hide (kb_at ((De.KB.refl B w3).setCell 3 (.slice (some ⟨w2.heap.size, 0, none⟩) xs.length xs.length)) a3 (fun a e => by cases e; show w2.heap.size ≠ B; omega))
            have s4 := ((De.KB.refl B w3).setCell 3 (.slice (some ⟨w2.heap.size, 0, none⟩) xs.length xs.length)).size
            clear b3 a3
            cases ht3 : tl ((nbs s).drop (y + k5)) 64 with
            | error e =>
              have NN := hide (sdec_draws SH.out RP.out HT2.out ht3)
              have HT3 := hide ht3
              clear ht3
              go_wp2_with fail
              refine (list_no (w.heap.size + 1) s (y + k5) false 64 _ D4.out.rd hs (.inr ⟨e, HT3.out⟩)).mono ?_
              rintro r w5 ⟨rfl, rr5, k5'⟩
              have D5 := hide (D4.out.kb k5' rr5)
              obtain ⟨u0, u1, u2, u3, u4⟩ := sc_cells D5.out.sc
              have fz4 := frozen_of D5.out.sc 4
              have D6 := hide (D5.out.set4 (.slice none 0 0))
              obtain ⟨⟨t0, t1⟩, -, -⟩ := rd_cells D6.out.rd
              obtain ⟨r0, r1, r2, r3, r4⟩ := sc_cells D6.out.res
              have q0 := frozen_of D6.out.res 0
              have q1 := frozen_of D6.out.res 1
              have q2 := frozen_of D6.out.res 2
              have q3 := frozen_of D6.out.res 3
              have q4 := frozen_of D6.out.res 4

              clear k5' rr5
              go_wp2_with fail
              exact bodyPost_ret (results_row2 Try.results19 _ _ _ _ _ rfl rfl (loadVar_sc (five_set D6.out.res _ _ _ _ _) rfl)) rfl ⟨.inl ⟨NN.out, rfl⟩, (((((D6.out.bel.setCell (Nat.le_refl _) _).setCell (Nat.le_refl _) _).setCell (Nat.le_refl _) _).setCell (Nat.le_refl _) _).setCell (Nat.le_refl _) _)⟩
            | ok py =>
              obtain ⟨ys, k6⟩ := py
              have SE := hide (sdec_end SH.out RP.out HT2.out ht3)
              have HT3 := hide ht3
              have sz3 := (Re.tl_size ht3).2
              have yl := (tl_bd ht3).2
              rw [List.length_drop, nbs_length] at sz3
              clear ht3
              go_wp2_with fail
              refine (list_ok (w.heap.size + 1) s (y + k5) 64 ys k6 _ D4.out.rd hs HT3.out).mono ?_
              rintro r w5 ⟨b5, rfl, a5, lb5, rr5, k5'⟩
              have s5 := k5'.size
              have D5 := hide (D4.out.kb k5' rr5)
              have P5 := hide (P4.out.kb k5' (by omega))
              have A5 := hide (kb_at k5' A4.out (fun a e => by cases e; show w2.heap.size ≠ w.heap.size + 1; omega))
              obtain ⟨u0, u1, u2, u3, u4⟩ := sc_cells D5.out.sc
              have fz4 := frozen_of D5.out.sc 4
              have D6 := hide (D5.out.set4 (.slice (some ⟨b5, 0, none⟩) ys.length ys.length))
              have P6 := hide (P5.out.kb ((De.KB.refl B w5).setCell 4 (.slice (some ⟨b5, 0, none⟩) ys.length ys.length)) hNG.2)
              have A6 := hide (kb_at ((De.KB.refl B w5).setCell 4 (.slice (some ⟨b5, 0, none⟩) ys.length ys.length)) A5.out (fun a e => by cases e; show w2.heap.size ≠ B; omega))
              have Y6 := hide (kb_at ((De.KB.refl B w5).setCell 4 (.slice (some ⟨b5, 0, none⟩) ys.length ys.length)) a5 (fun a e => by cases e; show b5 ≠ B; omega))
              obtain ⟨⟨t0, t1⟩, -, -⟩ := rd_cells D6.out.rd
              obtain ⟨v0, v1, v2, v3, v4⟩ := sc_cells D6.out.sc
              obtain ⟨r0, r1, r2, r3, r4⟩ := sc_cells D6.out.res
              have q0 := frozen_of D6.out.res 0
              have q1 := frozen_of D6.out.res 1
              have q2 := frozen_of D6.out.res 2
              have q3 := frozen_of D6.out.res 3
              have q4 := frozen_of D6.out.res 4

              have he := sx_end s (y + k5 + k6) (by omega)
              clear k5' rr5 a5
              by_cases hend : y + k5 + k6 = s.size
              · have he2 : decide (y + k5 + k6 = s.size) = true := by simpa using hend
                rw [he2] at he
                have LN := hide (rprogs_len RP.out)
                have S6 : Hid (SAt (w5.setCell ⟨B, 4, none⟩ (.slice (some ⟨b5, 0, none⟩) ys.length ys.length)) ⟨(t : Int), (m : Int), ps, mv (-1) xs, ys⟩ (some ⟨G, 0, none⟩) (some ⟨w2.heap.size, 0, none⟩) (some ⟨b5, 0, none⟩)) :=
                  ⟨P6.out.at D6.out.pr, A6.out, Y6.out, by show ps.length ≤ _; rw [LN.out]; unfold maxLen; omega, by show (mv (-1) xs).length ≤ _; rw [mv_len]; unfold maxLen; omega, by show ys.length ≤ _; unfold maxLen; omega⟩
                have HE := hide hend
                clear he2 hend
                go_wp2_with fail
                refine (scheck_len t m ps (mv (-1) xs) ys _ _ _ _ _ _ _ _ _ LN.out (mv_len _ _) rfl _ S6.out).mono ?_
                rintro r w7 ⟨rfl, b7⟩
                have D7 := hide (D6.out.below b7)
                have S7 := hide (S6.out.below b7)
                have P7 := hide (P6.out.kb (De.KB.of (R := w.heap.size + 1) b7) (by omega))
                have A7 := hide (A6.out.below b7)
                have Y7 := hide (Y6.out.below b7)
                obtain ⟨v0, v1, v2, v3, v4⟩ := sc_cells D7.out.sc
                obtain ⟨r0, r1, r2, r3, r4⟩ := sc_cells D7.out.res
                have q0 := frozen_of D7.out.res 0
                have q1 := frozen_of D7.out.res 1
                have q2 := frozen_of D7.out.res 2
                have q3 := frozen_of D7.out.res 3
                have q4 := frozen_of D7.out.res 4

                clear b7
                cases hc : schk ⟨(t : Int), (m : Int), ps, mv (-1) xs, ys⟩ == 0
                · have hc' : (schk ⟨(t : Int), (m : Int), ps, mv (-1) xs, ys⟩ != 0) = true := by simp [bne, hc]
                  have NN : Hid (sdec s = none) := by
                    show _ = _
                    rw [SE.out, if_neg]
                    rintro ⟨_, e⟩
                    rw [e] at hc
                    cases hc
                  clear hc
                  go_wp2_with fail
                  exact bodyPost_ret (results_row2 Try.results19 _ _ _ _ _ rfl rfl (loadVar_sc (five_set D7.out.res _ _ _ _ _) rfl)) rfl ⟨.inl ⟨NN.out, rfl⟩, (((((D7.out.bel.setCell (Nat.le_refl _) _).setCell (Nat.le_refl _) _).setCell (Nat.le_refl _) _).setCell (Nat.le_refl _) _).setCell (Nat.le_refl _) _)⟩
                · have hc' : (schk ⟨(t : Int), (m : Int), ps, mv (-1) xs, ys⟩ != 0) = false := by simp [bne, hc]
                  have SS : Hid (sdec s = some ⟨(t : Int), (m : Int), ps, mv (-1) xs, ys⟩) := by
                    show _ = _
                    rw [SE.out, if_pos ⟨HE.out, by simpa using hc⟩]
                  clear hc
                  go_wp2_with fail
                  refine bodyPost_ret (results_row2 Try.results19 _ _ _ _ _ rfl rfl (loadVar_sc (five_set D7.out.res _ _ _ _ _) rfl)) rfl ⟨.inr ⟨(t : Int), (m : Int), ps, mv (-1) xs, ys, some ⟨G, 0, none⟩, some ⟨w2.heap.size, 0, none⟩, some ⟨b5, 0, none⟩, _, xs.length, ys.length, SS.out, by rw [mv_len, LN.out]; rfl, ?_⟩, (((((D7.out.bel.setCell (Nat.le_refl _) _).setCell (Nat.le_refl _) _).setCell (Nat.le_refl _) _).setCell (Nat.le_refl _) _).setCell (Nat.le_refl _) _)⟩
                  have KZ := fun (u0 u1 u2 u3 u4 : Value) => (((((De.KB.refl w.heap.size w7).setCell 0 u0).setCell 1 u1).setCell 2 u2).setCell 3 u3).setCell 4 u4
                  exact ⟨(P7.out.kb (KZ _ _ _ _ _) (by omega)).at ((five_other w.heap.size G (by omega) _ _ _ _ _).trans D7.out.pr), kb_at (KZ _ _ _ _ _) A7.out (fun a e => by cases e; show w2.heap.size ≠ w.heap.size; omega), kb_at (KZ _ _ _ _ _) Y7.out (fun a e => by cases e; show b5 ≠ w.heap.size; omega), S7.out.h1, S7.out.h2, S7.out.h3⟩
              · have he2 : decide (y + k5 + k6 = s.size) = false := by simpa using hend
                rw [he2] at he
                have NN : Hid (sdec s = none) := by
                  show _ = _
                  rw [SE.out, if_neg]
                  rintro ⟨e, _⟩
                  exact hend e
                clear he2 hend
                go_wp2_with fail
                exact bodyPost_ret (results_row2 Try.results19 _ _ _ _ _ rfl rfl (loadVar_sc (five_set D6.out.res _ _ _ _ _) rfl)) rfl ⟨.inl ⟨NN.out, rfl⟩, (((((D6.out.bel.setCell (Nat.le_refl _) _).setCell (Nat.le_refl _) _).setCell (Nat.le_refl _) _).setCell (Nat.le_refl _) _).setCell (Nat.le_refl _) _)⟩
end Sh
end Go.Proofs.Ytocmdehpbipmlaa
/- Package sheet: copies of rows of programs, operations, cases, over this seat's program. -/
namespace Go.Proofs.Ytocmdehpbipmlaa
open Go.ChangeShapes Go.WideShapes Go.ChangeAt Go.RowKit
namespace Sh
open De Ba Re

theorem cps {w : World} {oa : Option Addr} {m : Nat} (h : ∀ j, j < m → ∃ b off v, oa = some ⟨b, off, none⟩ ∧ w.cell? ⟨b, off + j, none⟩ = some v ∧ v.oneCell' = true) : ∃ cs : List Value, cs.length = m ∧ CsAt w oa cs ∧ ∀ v ∈ cs, v.oneCell' = true := by
  have hv : ∀ j, j < m → ∃ v : Value, ∃ b off, oa = some ⟨b, off, none⟩ ∧ w.cell? ⟨b, off + j, none⟩ = some v ∧ v.oneCell' = true := fun j hj => by
    obtain ⟨b, off, v, h1, h2⟩ := h j hj
    exact ⟨v, b, off, h1, h2⟩
  have fam : ∃ f : Nat → Value, ∀ j, j < m → ∃ b off, oa = some ⟨b, off, none⟩ ∧ w.cell? ⟨b, off + j, none⟩ = some (f j) ∧ (f j).oneCell' = true := by
    refine ⟨fun j => if hj : j < m then Classical.choose (hv j hj) else .int .i64 0, fun j hj => ?_⟩
    simp only [dif_pos hj]
    exact Classical.choose_spec (hv j hj)
  obtain ⟨f, hf⟩ := fam
  refine ⟨(List.range m).map f, by simp, ?_, ?_⟩
  · intro j v hj
    have hjm : j < m := by
      have := (List.getElem?_eq_some_iff.1 hj).1
      simpa using this
    obtain ⟨b, off, h1, h2, _⟩ := hf j hjm
    simp [hjm] at hj
    subst hj
    exact ⟨b, off, h1, h2⟩
  · intro v hv
    rw [List.mem_map] at hv
    obtain ⟨j, hj, rfl⟩ := hv
    obtain ⟨_, _, _, _, h3⟩ := hf j (List.mem_range.1 hj)
    exact h3
theorem cs_get {w : World} {b off : Nat} {cs : List Value} (hA : CsAt w (some ⟨b, off, none⟩) cs) {j : Nat} (hj : j < cs.length) {v : Value} (hc : w.cell? ⟨b, off + j, none⟩ = some v) : cs[j]? = some v := by
  obtain ⟨b', off', he, h2⟩ := hA j cs[j] (List.getElem?_eq_getElem hj)
  cases he
  rw [hc] at h2
  rw [List.getElem?_eq_getElem hj, ← h2]
theorem row_cell (w : World) (cs : List Value) (t : TypeId) (j : Nat) : (w.alloc (.cells cs.toArray t)).cell? ⟨w.heap.size, j, none⟩ = cs[j]? := by
  rw [cell_of (heap_new _ _), List.getElem?_toArray]
theorem oat_cells {w : World} {oa : Option Addr} {q : List OpD} (h : OAt w oa q) : ∀ j, j < q.length * 5 → ∃ b off v, oa = some ⟨b, off, none⟩ ∧ w.cell? ⟨b, off + j, none⟩ = some v ∧ v.oneCell' = true := by
  intro j hj
  have ht : j / 5 < q.length := by omega
  obtain ⟨b, off, ca, cc, he, ⟨h0, h1, h2, h3, h4⟩, _⟩ := h (j / 5) q[j / 5] (List.getElem?_eq_getElem ht)
  have e : j % 5 = 0 ∨ j % 5 = 1 ∨ j % 5 = 2 ∨ j % 5 = 3 ∨ j % 5 = 4 := by omega
  rcases e with e | e | e | e | e
  · exact ⟨b, off, _, he, by rw [show off + j = off + j / 5 * 5 by omega]; exact h0, rfl⟩
  · exact ⟨b, off, _, he, by rw [show off + j = off + j / 5 * 5 + 1 by omega]; exact h1, rfl⟩
  · exact ⟨b, off, _, he, by rw [show off + j = off + j / 5 * 5 + 2 by omega]; exact h2, rfl⟩
  · exact ⟨b, off, _, he, by rw [show off + j = off + j / 5 * 5 + 3 by omega]; exact h3, rfl⟩
  · exact ⟨b, off, _, he, by rw [show off + j = off + j / 5 * 5 + 4 by omega]; exact h4, rfl⟩
theorem cat_cells {w : World} {oa : Option Addr} {l : List Cs} (h : CAt w oa l) : ∀ j, j < l.length * 3 → ∃ b off v, oa = some ⟨b, off, none⟩ ∧ w.cell? ⟨b, off + j, none⟩ = some v ∧ v.oneCell' = true := by
  intro j hj
  have ht : j / 3 < l.length := by omega
  obtain ⟨b, off, he, h0, h1, h2⟩ := h (j / 3) l[j / 3] (List.getElem?_eq_getElem ht)
  have e : j % 3 = 0 ∨ j % 3 = 1 ∨ j % 3 = 2 := by omega
  rcases e with e | e | e
  · exact ⟨b, off, _, he, by rw [show off + j = off + j / 3 * 3 by omega]; exact h0, rfl⟩
  · exact ⟨b, off, _, he, by rw [show off + j = off + j / 3 * 3 + 1 by omega]; exact h1, rfl⟩
  · exact ⟨b, off, _, he, by rw [show off + j = off + j / 3 * 3 + 2 by omega]; exact h2, rfl⟩
theorem pat_cells {w : World} {oa : Option Addr} {ps : List (List OpD)} (h : PAt w oa ps) : ∀ j, j < ps.length * 1 → ∃ b off v, oa = some ⟨b, off, none⟩ ∧ w.cell? ⟨b, off + j, none⟩ = some v ∧ v.oneCell' = true := by
  intro j hj
  rw [Nat.mul_one] at hj
  obtain ⟨b, off, pa, pc, he, h0, _⟩ := h j ps[j] (List.getElem?_eq_getElem hj)
  exact ⟨b, off, _, he, h0, rfl⟩

set_option maxRecDepth 100000 in
set_option maxHeartbeats 800000 in
theorem copied_op (oa : Option Addr) (q : List OpD) (c : Nat) (w : World) (hO : OAt w oa q) (hl : q.length ≤ 1000) :
    Calls Try.prog 52 #[.slice oa q.length c] w fun r w' => r = .returned (.slice (some ⟨w.heap.size, 0, none⟩) q.length q.length) ∧ ∃ cs, w' = w.alloc (.cells cs.toArray 24) ∧ cs.length = q.length * 5 ∧ CsAt w oa cs := by
  obtain ⟨i0, hi, hz0, hz1, hz2⟩ := info_parts info_op
  obtain ⟨cs, h1, h2, h3⟩ := cps (oat_cells hO)
  have hm := run_mkG Try.underlying56 hi hz0 w q.length (by rw [hz2]; omega) (by omega)
  have hcp := run_cpG (z := .agg #[.int .i64 0, .int .i64 0, .int .i64 0, .slice none 0 0, .bool false]) Try.underlying56 hi 3 w oa q.length c cs (by rw [hz1]; exact h1) h2 h3 (by rw [hz1]; decide)
  generalize madeCells (Value.cells (.agg #[.int .i64 0, .int .i64 0, .int .i64 0, .slice none 0 0, .bool false])) (q.length * i0.size) = MC at hm hcp
  have H2 := hide h2
  clear hO h2 hi hz0 hz1 hz2
  go_enter Try.func52, Try.ntmps52
  go_wp2_with fail
  go_ret
  exact ⟨rfl, cs, rfl, h1, H2.out⟩
set_option maxRecDepth 100000 in
set_option maxHeartbeats 800000 in
theorem copied_pr (oa : Option Addr) (ps : List (List OpD)) (c : Nat) (w : World) (hP : PAt w oa ps) (hl : ps.length ≤ 1000) :
    Calls Try.prog 51 #[.slice oa ps.length c] w fun r w' => r = .returned (.slice (some ⟨w.heap.size, 0, none⟩) ps.length ps.length) ∧ ∃ cs, w' = w.alloc (.cells cs.toArray 56) ∧ cs.length = ps.length ∧ CsAt w oa cs := by
  obtain ⟨i0, hi, hz0, hz1, hz2⟩ := info_parts info_pr
  obtain ⟨cs, h1, h2, h3⟩ := cps (pat_cells hP)
  have hm := run_mkG Try.underlying35 hi hz0 w ps.length (by rw [hz2]; omega) (by omega)
  have hcp := run_cpG (z := .slice none 0 0) Try.underlying35 hi 3 w oa ps.length c cs (by rw [hz1]; exact h1) h2 h3 (by rw [hz1]; decide)
  generalize madeCells (Value.cells (.slice none 0 0)) (ps.length * i0.size) = MC at hm hcp
  have H2 := hide h2
  rw [Nat.mul_one] at h1
  clear hP h2 hi hz0 hz1 hz2
  go_enter Try.func51, Try.ntmps51
  go_wp2_with fail
  go_ret
  exact ⟨rfl, cs, rfl, h1, H2.out⟩
set_option maxRecDepth 100000 in
set_option maxHeartbeats 800000 in
theorem copied_case (oa : Option Addr) (l : List Cs) (c : Nat) (w : World) (hC : CAt w oa l) (hl : l.length ≤ 100000) :
    Calls Try.prog 53 #[.slice oa l.length c] w fun r w' => r = .returned (.slice (some ⟨w.heap.size, 0, none⟩) l.length l.length) ∧ CAt w' (some ⟨w.heap.size, 0, none⟩) l ∧ Below w.heap.size w w' := by
  obtain ⟨i0, hi, hz0, hz1, hz2⟩ := info_parts info_case
  obtain ⟨cs, h1, h2, h3⟩ := cps (cat_cells hC)
  have hm := run_mkG Try.underlying22 hi hz0 w l.length (by rw [hz2]; omega) (by omega)
  have hcp := run_cpG (z := .agg #[.bool false, .int .i64 0, .int .i64 0]) Try.underlying22 hi 3 w oa l.length c cs (by rw [hz1]; exact h1) h2 h3 (by rw [hz1]; decide)
  generalize madeCells (Value.cells (.agg #[.bool false, .int .i64 0, .int .i64 0])) (l.length * i0.size) = MC at hm hcp
  have HN : Hid (CAt (w.alloc (.cells cs.toArray 58)) (some ⟨w.heap.size, 0, none⟩) l) := by
    intro k x hk
    obtain ⟨b, off, rfl, q0, q1, q2⟩ := hC k x hk
    have hkl := (List.getElem?_eq_some_iff.1 hk).1
    refine ⟨w.heap.size, 0, rfl, ?_, ?_, ?_⟩
    · rw [Nat.zero_add, row_cell]; exact cs_get h2 (by omega) q0
    · rw [Nat.zero_add, row_cell]; exact cs_get h2 (by omega) (by rw [← Nat.add_assoc]; exact q1)
    · rw [Nat.zero_add, row_cell]; exact cs_get h2 (by omega) (by rw [← Nat.add_assoc]; exact q2)
  clear hC h2 hi hz0 hz1 hz2
  go_enter Try.func53, Try.ntmps53
  go_wp2_with fail
  go_ret
  exact ⟨rfl, HN.out, below_alloc _ _⟩
end Sh
end Go.Proofs.Ytocmdehpbipmlaa
/- Package sheet: Copy, over this seat's program. -/
namespace Go.Proofs.Ytocmdehpbipmlaa
open Go.ChangeShapes Go.WideShapes Go.ChangeAt Go.RowKit
namespace Sh
open De Ba Re

/-- a copied program's row: of the first k operations the cases are copied, too -/
def OM (w : World) (N0 g k : Nat) (l : List OpD) : Prop :=
  ∀ (t : Nat) (o : OpD), l[t]? = some o → ∃ ca cc, (w.cell? ⟨g, t * 5, none⟩ = some (.int .i64 o.kind) ∧ w.cell? ⟨g, t * 5 + 1, none⟩ = some (.int .i64 o.a) ∧ w.cell? ⟨g, t * 5 + 2, none⟩ = some (.int .i64 o.b) ∧ w.cell? ⟨g, t * 5 + 3, none⟩ = some (.slice ca o.cases.length cc) ∧ w.cell? ⟨g, t * 5 + 4, none⟩ = some (.bool o.def_)) ∧ CAt w ca o.cases ∧ (t < k → ∀ a, ca = some a → g + 1 ≤ a.block) ∧ (¬ t < k → ∀ a, ca = some a → o.cases ≠ [] → a.block < N0) ∧ o.cases.length ≤ 3000
theorem cat_lt {w : World} {oa : Option Addr} {l : List Cs} (h : CAt w oa l) (hl : l ≠ []) (a : Addr) (e : oa = some a) : a.block < w.heap.size := by
  cases l with
  | nil => exact absurd rfl hl
  | cons x t =>
    obtain ⟨b, off, rfl, h1, _⟩ := h 0 x rfl
    cases e
    exact World.block_lt_of_cell? w _ h1
theorem cat_kb' {R : Nat} {w w' : World} {oa : Option Addr} {l : List Cs} (k : De.KB R w w') (h : CAt w oa l) (hb : ∀ a, oa = some a → l ≠ [] → a.block ≠ R) : CAt w' oa l := by
  intro j x hj
  obtain ⟨b, off, rfl, h1, h2, h3⟩ := h j x hj
  have hne : l ≠ [] := by
    rintro rfl
    simp at hj
  exact ⟨b, off, rfl, kb_cell k h1 (hb _ rfl hne), kb_cell k h2 (hb _ rfl hne), kb_cell k h3 (hb _ rfl hne)⟩
theorem OM.start {w wr : World} {oa : Option Addr} {q : List OpD} {cs : List Value} (hO : OAt w oa q) (hb : Below w.heap.size w wr) (hl : cs.length = q.length * 5) (hA : CsAt wr oa cs) (h3 : ∀ o ∈ q, o.cases.length ≤ 3000) : OM (wr.alloc (.cells cs.toArray 24)) w.heap.size wr.heap.size 0 q := by
  intro t o ht
  obtain ⟨b, off, ca, cc, rfl, ⟨q0, q1, q2, q3, q4⟩, hC, _⟩ := hO t o ht
  have htl := (List.getElem?_eq_some_iff.1 ht).1
  refine ⟨ca, cc, ⟨?_, ?_, ?_, ?_, ?_⟩, (hC.below hb).below (below_alloc _ _), fun h => absurd h (Nat.not_lt_zero _), fun _ a e hne => cat_lt hC hne a e, h3 o (List.mem_of_getElem? ht)⟩
  · rw [row_cell]; exact cs_get hA (by omega) (cellB q0 hb)
  · rw [row_cell]; exact cs_get hA (by omega) (by rw [← Nat.add_assoc]; exact cellB q1 hb)
  · rw [row_cell]; exact cs_get hA (by omega) (by rw [← Nat.add_assoc]; exact cellB q2 hb)
  · rw [row_cell]; exact cs_get hA (by omega) (by rw [← Nat.add_assoc]; exact cellB q3 hb)
  · rw [row_cell]; exact cs_get hA (by omega) (by rw [← Nat.add_assoc]; exact cellB q4 hb)
theorem OM.below {w w' : World} {N0 g k : Nat} {l : List OpD} (h : OM w N0 g k l) (hb : Below w.heap.size w w') : OM w' N0 g k l := by
  intro t o ht
  obtain ⟨ca, cc, ⟨q0, q1, q2, q3, q4⟩, hC, h1, h2, h3⟩ := h t o ht
  exact ⟨ca, cc, ⟨cellB q0 hb, cellB q1 hb, cellB q2 hb, cellB q3 hb, cellB q4 hb⟩, hC.below hb, h1, h2, h3⟩
theorem OM.step {w : World} {N0 g k : Nat} {l : List OpD} {o : OpD} (h : OM w N0 g k l) (hN : N0 ≤ g) (ho : l[k]? = some o) (ca : Addr) (cc : Nat) (hC : CAt w (some ca) o.cases) (hg : g + 1 ≤ ca.block) : OM (w.setCell ⟨g, k * 5 + 3, none⟩ (.slice (some ca) o.cases.length cc)) N0 g (k + 1) l := by
  have KG := (De.KB.refl g w).setCell (k * 5 + 3) (.slice (some ca) o.cases.length cc)
  have far : ∀ i v, i ≠ k * 5 + 3 → w.cell? ⟨g, i, none⟩ = some v → (w.setCell ⟨g, k * 5 + 3, none⟩ (.slice (some ca) o.cases.length cc)).cell? ⟨g, i, none⟩ = some v := fun i v hi hv => by
    exact (World.cell?_setCell_other w ⟨g, k * 5 + 3, none⟩ ⟨g, i, none⟩ _ (by intro e; injection e; omega)).trans hv
  intro t x ht
  obtain ⟨ca', cc', ⟨q0, q1, q2, q3, q4⟩, hC', h1, h2, h3⟩ := h t x ht
  by_cases e : t = k
  · subst e
    rw [ho] at ht
    cases ht
    exact ⟨some ca, cc, ⟨far _ _ (by omega) q0, far _ _ (by omega) q1, far _ _ (by omega) q2, World.cell?_setCell_same _ _ _ q3, far _ _ (by omega) q4⟩, cat_kb KG hC (fun a e => by cases e; omega), fun _ a e => by cases e; exact hg, fun hlt => absurd (Nat.lt_succ_self _) hlt, h3⟩
  · refine ⟨ca', cc', ⟨far _ _ (by omega) q0, far _ _ (by omega) q1, far _ _ (by omega) q2, far _ _ (by omega) q3, far _ _ (by omega) q4⟩, cat_kb' KG hC' ?_, fun hlt => h1 (by omega), fun hlt => h2 (by omega), h3⟩
    intro a ea hne
    by_cases ht2 : t < k
    · have := h1 ht2 a ea; omega
    · have := h2 ht2 a ea hne; omega
theorem OM.done {w : World} {N0 g k : Nat} {l : List OpD} (h : OM w N0 g k l) (hk : l.length ≤ k) : OF w (g + 1) g l := by
  intro t o ht
  obtain ⟨ca, cc, hq, hC, h1, _, h3⟩ := h t o ht
  have htl := (List.getElem?_eq_some_iff.1 ht).1
  exact ⟨ca, cc, hq, hC, h1 (by omega), h3⟩

/-- programs being copied: the first k are, of the others the row still has the old ones -/
def PM (w0 w : World) (N k : Nat) (arr : Array Value) (ps : List (List OpD)) : Prop :=
  PF w N arr (ps.take k) ∧ ∀ (t : Nat) (q : List OpD), k ≤ t → ps[t]? = some q → ∃ pa pc, arr[t]? = some (.slice pa q.length pc) ∧ OAt w0 pa q
theorem PF.below {w w' : World} {N : Nat} {arr : Array Value} {ps : List (List OpD)} (h : PF w N arr ps) (hb : Below w.heap.size w w') (hN : 0 < N) : PF w' N arr ps := h.kb (De.KB.of (R := 0) hb) hN
theorem PM.start {w wr : World} {oa : Option Addr} {ps : List (List OpD)} {cs : List Value} (hP : PAt w oa ps) (hb : Below w.heap.size w wr) (hl : cs.length = ps.length) (hA : CsAt wr oa cs) (W : World) (N : Nat) : PM w W N 0 cs.toArray ps := by
  refine ⟨fun t q ht => by simp at ht, fun t q _ ht => ?_⟩
  obtain ⟨b, off, pa, pc, rfl, h0, h1, _⟩ := hP t q ht
  have htl := (List.getElem?_eq_some_iff.1 ht).1
  exact ⟨pa, pc, by rw [List.getElem?_toArray]; exact cs_get hA (by omega) (cellB h0 hb), h1⟩
theorem PM.step {w0 w : World} {N k : Nat} {arr : Array Value} {ps : List (List OpD)} {q : List OpD} (h : PM w0 w N k arr ps) (hq : ps[k]? = some q) (hs : k < arr.size) (g c : Nat) (hof : OF w (g + 1) g q) (hN : N ≤ g) (hl : q.length ≤ 1000) : PM w0 w N (k + 1) (arr.setIfInBounds k (.slice (some ⟨g, 0, none⟩) q.length c)) ps := by
  have hk := (List.getElem?_eq_some_iff.1 hq).1
  refine ⟨?_, fun t x ht hx => ?_⟩
  · rw [List.take_add_one, hq]
    exact h.1.store k (by rw [List.length_take]; omega) hs g c q hof hN hl
  · obtain ⟨pa, pc, h1, h2⟩ := h.2 t x (by omega) hx
    exact ⟨pa, pc, by rw [Array.getElem?_setIfInBounds_ne (by omega)]; exact h1, h2⟩
theorem PM.below {w0 w w' : World} {N k : Nat} {arr : Array Value} {ps : List (List OpD)} (h : PM w0 w N k arr ps) (hb : Below w.heap.size w w') (hN : 0 < N) : PM w0 w' N k arr ps := ⟨h.1.below hb hN, h.2⟩
theorem PM.kb {w0 w w' : World} {N k R : Nat} {arr : Array Value} {ps : List (List OpD)} (h : PM w0 w N k arr ps) (hk : De.KB R w w') (hR : R < N) : PM w0 w' N k arr ps := ⟨h.1.kb hk hR, h.2⟩
theorem PF.mono {w : World} {N N' : Nat} {arr : Array Value} {ps : List (List OpD)} (h : PF w N arr ps) (hN : N' ≤ N) : PF w N' arr ps := by
  intro t q ht
  obtain ⟨g, c, h1, h2, h3, h4⟩ := h t q ht
  exact ⟨g, c, h1, h2, by omega, h4⟩
/-- what Copy keeps: the script boxed at P, the answer's room behind it, the programs at G -/
structure CC (w wr : World) (G : Nat) (v0 v1 v2 v3 v4 : Value) (arr : Array Value) (n : Nat) : Prop where
  bx : wr.heap[w.heap.size]? = some (.cells #[v0, v1, v2, v3, v4] 38 (0, 0))
  zr : wr.heap[w.heap.size + 1]? = some (.cells #[.int .i64 0, .int .i64 0, .slice none 0 0, .slice none 0 0, .slice none 0 0] 38 (0, 0))
  pr : wr.heap[G]? = some (.cells arr 56 (0, 0))
  sz : arr.size = n
  bel : Below w.heap.size w wr
  ne : w.heap.size + 1 < G
theorem CC.below {w wr wr' : World} {G : Nat} {v0 v1 v2 v3 v4 : Value} {arr : Array Value} {n : Nat} (h : CC w wr G v0 v1 v2 v3 v4 arr n) (hb : Below wr.heap.size wr wr') : CC w wr' G v0 v1 v2 v3 v4 arr n :=
  ⟨heap_below h.bx hb, heap_below h.zr hb, heap_below h.pr hb, h.sz, btr h.bel hb, h.ne⟩
theorem CC.other {w wr wr' : World} {G R : Nat} {v0 v1 v2 v3 v4 : Value} {arr : Array Value} {n : Nat} (h : CC w wr G v0 v1 v2 v3 v4 arr n) (k : De.KB R wr wr') (hR : G < R) : CC w wr' G v0 v1 v2 v3 v4 arr n := by
  have hn := h.ne
  exact ⟨k.heap h.bx (by omega), k.heap h.zr (by omega), k.heap h.pr (by omega), h.sz, De.KB.below h.bel k (by omega), hn⟩
theorem CC.store {w wr : World} {G : Nat} {v0 v1 v2 v3 v4 : Value} {arr : Array Value} {n : Nat} (h : CC w wr G v0 v1 v2 v3 v4 arr n) (k : Nat) (v : Value) : CC w (wr.setCell ⟨G, k, none⟩ v) G v0 v1 v2 v3 v4 (arr.setIfInBounds k v) n := by
  have hn := h.ne
  have K := (De.KB.refl G wr).setCell k v
  exact ⟨K.heap h.bx (by omega), K.heap h.zr (by omega), Ba.heap_setCell_same h.pr v, by rw [Array.size_setIfInBounds]; exact h.sz, De.KB.below h.bel K (by omega), hn⟩
theorem CC.box {w wr : World} {G : Nat} {v0 v1 v2 v3 v4 u0 u1 u2 u3 u4 : Value} {arr : Array Value} {n : Nat} (h : CC w wr G v0 v1 v2 v3 v4 arr n) (i : Nat) (v : Value) (he : (#[v0, v1, v2, v3, v4] : Array Value).setIfInBounds i v = #[u0, u1, u2, u3, u4]) : CC w (wr.setCell ⟨w.heap.size, i, none⟩ v) G u0 u1 u2 u3 u4 arr n := by
  have hn := h.ne
  have K := (De.KB.refl w.heap.size wr).setCell i v
  exact ⟨by rw [Ba.heap_setCell_same h.bx, he], K.heap h.zr (by omega), K.heap h.pr (by omega), h.sz, De.KB.below h.bel K (by omega), hn⟩
/-- what is gone through here -/
structure Small (ps : List (List OpD)) (pl dr : List Int) : Prop where
  n : ps.length ≤ 20
  q : ∀ q ∈ ps, q.length ≤ 100
  c : ∀ q ∈ ps, ∀ o ∈ q, o.cases.length ≤ 3000
  p : pl.length ≤ 1000
  d : dr.length ≤ 1000
/-- what Copy answers: the same script, in new blocks -/
def CRes (w : World) (T M : Int) (ps : List (List OpD)) (pl dr : List Int) (r : Ending) (w' : World) : Prop :=
  ∃ G L D arr, r = .returned (.agg #[.int .i64 T, .int .i64 M, .slice (some ⟨G, 0, none⟩) ps.length ps.length, .slice (some ⟨L, 0, none⟩) pl.length pl.length, .slice (some ⟨D, 0, none⟩) dr.length dr.length]) ∧ (w'.heap[G]? = some (.cells arr 56 (0, 0)) ∧ PF w' (w.heap.size + 1) arr ps ∧ w.heap.size < G) ∧ (w'.heap[L]? = some (.cells (row pl) 3 (0, 0)) ∧ G < L) ∧ w'.heap[D]? = some (.cells (row dr) 3 (0, 0)) ∧ L < D

set_option maxRecDepth 100000 in
set_option maxHeartbeats 3200000 in
theorem copy_any (T M : Int) (ps : List (List OpD)) (pl dr : List Int) (pa la da : Option Addr) (pc lc dc : Nat) (w : World) (hS : SAt w ⟨T, M, ps, pl, dr⟩ pa la da) (hm : Small ps pl dr) :
    Calls Try.prog 22 #[.agg #[.int .i64 T, .int .i64 M, .slice pa ps.length pc, .slice la pl.length lc, .slice da dr.length dc]] w fun r w' => CRes w T M ps pl dr r w' ∧ Below w.heap.size w w' := by
  have SW := hide hS
  obtain ⟨h20, h100, h3000, hpl, hdr⟩ := hm
  have H100 := hide h100
  have H3 := hide h3000
  have B0 := hide (btr (below_alloc w (.cells #[.int .i64 T, .int .i64 M, .slice pa ps.length pc, .slice la pl.length lc, .slice da dr.length dc] 38)) (below_alloc (w.alloc (.cells #[.int .i64 T, .int .i64 M, .slice pa ps.length pc, .slice la pl.length lc, .slice da dr.length dc] 38)) (.cells #[.int .i64 0, .int .i64 0, .slice none 0 0, .slice none 0 0, .slice none 0 0] 38)))
  have X0 := hide (heap_below (heap_new w (.cells #[.int .i64 T, .int .i64 M, .slice pa ps.length pc, .slice la pl.length lc, .slice da dr.length dc] 38)) (below_alloc (w.alloc (.cells #[.int .i64 T, .int .i64 M, .slice pa ps.length pc, .slice la pl.length lc, .slice da dr.length dc] 38)) (.cells #[.int .i64 0, .int .i64 0, .slice none 0 0, .slice none 0 0, .slice none 0 0] 38)))
  have Z0 : Hid (((w.alloc (.cells #[.int .i64 T, .int .i64 M, .slice pa ps.length pc, .slice la pl.length lc, .slice da dr.length dc] 38)).alloc (.cells #[.int .i64 0, .int .i64 0, .slice none 0 0, .slice none 0 0, .slice none 0 0] 38)).heap[w.heap.size + 1]? = some (.cells #[.int .i64 0, .int .i64 0, .slice none 0 0, .slice none 0 0, .slice none 0 0] 38 (0, 0))) := by
    have := heap_new (w.alloc (.cells #[.int .i64 T, .int .i64 M, .slice pa ps.length pc, .slice la pl.length lc, .slice da dr.length dc] 38)) (.cells #[.int .i64 0, .int .i64 0, .slice none 0 0, .slice none 0 0, .slice none 0 0] 38)
    rw [World.size_alloc] at this
    exact this
  have s0 : ((w.alloc (.cells #[.int .i64 T, .int .i64 M, .slice pa ps.length pc, .slice la pl.length lc, .slice da dr.length dc] 38)).alloc (.cells #[.int .i64 0, .int .i64 0, .slice none 0 0, .slice none 0 0, .slice none 0 0] 38)).heap.size = w.heap.size + 1 + 1 := by rw [World.size_alloc, World.size_alloc]
  have HS0 := hide s0
  obtain ⟨x0, x1, x2, x3, x4⟩ := sc_cells X0.out
  have fz2 := frozen_of X0.out 2
  clear hS h100 h3000 s0
  go_enter Try.func22, Try.ntmps22
  go_wp2_with fail
  generalize (w.alloc (.cells #[.int .i64 T, .int .i64 M, .slice pa ps.length pc, .slice la pl.length lc, .slice da dr.length dc] 38)).alloc (.cells #[.int .i64 0, .int .i64 0, .slice none 0 0, .slice none 0 0, .slice none 0 0] 38) = W0 at B0 X0 Z0 HS0 x0 x1 x2 x3 x4 fz2 ⊢
  refine (copied_pr pa ps pc _ (SW.out.ps.below B0.out) (by show ps.length ≤ 1000; omega)).mono ?_
  rw [HS0.out]
  rintro r w1 ⟨rfl, cs, hw1, hcl, hcs⟩
  have G1 : Hid (w1.heap[w.heap.size + 1 + 1]? = some (.cells cs.toArray 56 (0, 0))) := by
    have := heap_new W0 (.cells cs.toArray 56)
    rw [HS0.out] at this
    show _ = _
    rw [hw1]
    exact this
  have B1 : Hid (Below W0.heap.size W0 w1) := by
    show Below _ _ _
    rw [hw1]
    exact below_alloc _ _
  have PM1 := hide (PM.start SW.out.ps B0.out hcl hcs (w1.setCell ⟨w.heap.size, 2, none⟩ (.slice (some ⟨w.heap.size + 1 + 1, 0, none⟩) ps.length ps.length)) (w.heap.size + 1 + 1 + 1))
  have C0 : Hid (CC w w1 (w.heap.size + 1 + 1) (.int .i64 T) (.int .i64 M) (.slice pa ps.length pc) (.slice la pl.length lc) (.slice da dr.length dc) cs.toArray ps.length) :=
    ⟨heap_below X0.out B1.out, heap_below Z0.out B1.out, G1.out, by rw [List.size_toArray, hcl], btr B0.out B1.out, by omega⟩
  have C1 := hide (C0.out.box (u2 := .slice (some ⟨w.heap.size + 1 + 1, 0, none⟩) ps.length ps.length) 2 _ rfl)
  obtain ⟨x0, x1, x2, x3, x4⟩ := sc_cells C0.out.bx
  have fz2 := frozen_of C0.out.bx 2
  have N1 : Hid (w.heap.size + 1 + 1 + 1 ≤ (w1.setCell ⟨w.heap.size, 2, none⟩ (.slice (some ⟨w.heap.size + 1 + 1, 0, none⟩) ps.length ps.length)).heap.size) := De.heap_lt C1.out.pr
  clear hw1 hcl hcs
  go_wp2_with fail
  go_loopw [13] (fun i wr => ∃ (k : Nat) (arr : Array Value), k ≤ ps.length ∧ i = .int .i64 k ∧ CC w wr (w.heap.size + 1 + 1) (.int .i64 T) (.int .i64 M) (.slice (some ⟨w.heap.size + 1 + 1, 0, none⟩) ps.length ps.length) (.slice la pl.length lc) (.slice da dr.length dc) arr ps.length ∧ PM w wr (w.heap.size + 1 + 1 + 1) k arr ps ∧ w.heap.size + 1 + 1 + 1 ≤ wr.heap.size) (fun i _ => ps.length - (intOf i).toNat)
  case atStart => exact ⟨0, cs.toArray, Nat.zero_le _, rfl, C1.out, PM1.out, N1.out⟩
  case round =>
    clear x0 x1 x2 x3 x4 fz2 C0 C1 PM1 G1 B1 N1 B0 X0 Z0 HS0
    rename World => w2
    obtain ⟨k, arr, hk, rfl, c2, pm2, n2⟩ := hrel
    have C2 := hide c2
    have PM2 := hide pm2
    clear c2 pm2
    by_cases hlt : k < ps.length
    · have hlt' : (k : Int) < (ps.length : Int) := by omega
      obtain ⟨q, hq⟩ : ∃ q, ps[k]? = some q := ⟨ps[k], by simp [hlt]⟩
      obtain ⟨qa, qc, har, hO⟩ := PM2.out.2 k q (Nat.le_refl _) hq
      have ck := (cell_of C2.out.pr k).trans har
      have hqm := List.mem_of_getElem? hq
      have hq1 := H100.out q hqm
      have hq3 := H3.out q hqm
      have HQ := hide hq
      have HO := hide hO
      have HQ3 := hide hq3
      clear hq hO hqm hq3 har
      go_wp2_with fail
      refine (copied_op qa q qc _ (HO.out.below C2.out.bel) (by omega)).mono ?_
      rintro r w3 ⟨rfl, cq, hw3, hcl, hcs⟩
      have B3 : Hid (Below w2.heap.size w2 w3) := by
        show Below _ _ _
        rw [hw3]
        exact below_alloc _ _
      have OM3 : Hid (OM w3 w.heap.size w2.heap.size 0 q) := by
        have := OM.start HO.out C2.out.bel hcl hcs HQ3.out
        rw [← hw3] at this
        exact this
      have G3 : Hid (w3.heap[w2.heap.size]? = some (.cells cq.toArray 24 (0, 0))) := by
        show _ = _
        rw [hw3]
        exact heap_new _ _
      have s3 := De.heap_lt G3.out
      have HCL := hide hcl
      clear hw3 hcl hcs ck
      go_wp2_with fail
      go_loopw [22] (fun i wr => ∃ (j : Nat), j ≤ q.length ∧ i = .int .i64 j ∧ Below w2.heap.size w2 wr ∧ OM wr w.heap.size w2.heap.size j q ∧ (∀ i, wr.frozen? ⟨w2.heap.size, i, none⟩ = false) ∧ w2.heap.size < wr.heap.size) (fun i _ => q.length - (intOf i).toNat)
      case atStart => exact ⟨0, Nat.zero_le _, rfl, B3.out, OM3.out, fun i => frozen_of G3.out i, s3⟩
      case round =>
        clear OM3 G3 s3 B3
        obtain ⟨j, hj, rfl, bw, om4, fz4, n4⟩ := hrel
        have BW := hide bw
        have OM4 := hide om4
        have FZ4 := hide fz4
        clear bw om4 fz4
        by_cases hjl : j < q.length
        · have hjl' : (j : Int) < (q.length : Int) := by omega
          obtain ⟨o, ho⟩ : ∃ o, q[j]? = some o := ⟨q[j], by simp [hjl]⟩
          obtain ⟨ca, cc, ⟨y0, y1, y2, y3, y4⟩, hC, -, -, hl3⟩ := OM4.out j o ho
          have HX := hide ho
          have HC := hide hC
          clear ho hC y0 y1 y2 y4
          go_wp2_with fail
          refine (copied_case ca o.cases cc _ HC.out (by omega)).mono ?_
          rintro r w5 ⟨rfl, c5, b5⟩
          have C5 := hide c5
          have s5 := b5.size
          have OM5 := hide (OM4.out.below b5)
          have z3 := cellB y3 b5
          have zf := (b5.frozen (p := ⟨w2.heap.size, j * 5 + 3, none⟩) n4).trans (FZ4.out (j * 5 + 3))
          have FZ5 : Hid (∀ i, w5.frozen? ⟨w2.heap.size, i, none⟩ = false) := fun i => (b5.frozen (p := ⟨w2.heap.size, i, none⟩) n4).trans (FZ4.out i)
          have BW5 := hide (BW.out.trans (b5.mono (Nat.le_of_lt n4)))
          clear c5 b5 y3
          go_wp2_with fail
          go_roundw
          case rel => exact ⟨j + 1, by omega, by go_num, BW5.out.setCell (Nat.le_refl _) _, OM5.out.step (by omega) HX.out ⟨wr.heap.size, 0, none⟩ o.cases.length C5.out n4, fun i => by rw [World.frozen?_setCell]; exact FZ5.out i, Nat.lt_of_lt_of_le (Nat.lt_of_lt_of_le n4 s5) ((De.KB.refl w2.heap.size w5).setCell (j * 5 + 3) (.slice (some ⟨wr.heap.size, 0, none⟩) o.cases.length o.cases.length)).size⟩
          case measure => simp [intOf]; omega
        · have hjl' : ¬ ((j : Int) < (q.length : Int)) := by omega
          have C5 := hide (C2.out.below BW.out)
          have PM5 := hide (PM2.out.below BW.out (by omega))
          have OF5 := hide (OM4.out.done (by omega))
          have PM6 := hide ((PM5.out.step HQ.out (by rw [C5.out.sz]; exact hlt) w2.heap.size q.length OF5.out n2 (by omega)).kb ((De.KB.refl (w.heap.size + 1 + 1) wr).setCell k (.slice (some ⟨w2.heap.size, 0, none⟩) q.length q.length)) (by omega))
          obtain ⟨x0, x1, x2, x3, x4⟩ := sc_cells C5.out.bx
          have fk := frozen_of C5.out.pr k
          obtain ⟨vk, hvk⟩ : ∃ v, wr.cell? ⟨w.heap.size + 1 + 1, k, none⟩ = some v := ⟨_, (cell_of C5.out.pr k).trans (Array.getElem?_eq_getElem (by rw [C5.out.sz]; exact hlt))⟩
          have s6 := ((De.KB.refl (w.heap.size + 1 + 1) wr).setCell k (.slice (some ⟨w2.heap.size, 0, none⟩) q.length q.length)).size
          go_wp2_with fail
          go_roundw
          case rel => exact ⟨k + 1, _, by omega, by go_num, C5.out.store k _, PM6.out, by omega⟩
          case measure => simp [intOf]; omega
    · have hlt' : ¬ ((k : Int) < (ps.length : Int)) := by omega
      have PF2 : Hid (PF w2 (w.heap.size + 1 + 1 + 1) arr ps) := by
        have := PM2.out.1
        rw [List.take_of_length_le (by omega)] at this
        exact this
      obtain ⟨x0, x1, x2, x3, x4⟩ := sc_cells C2.out.bx
      clear PM2
      go_wp2_with fail
      refine (copied_int la pl lc _ (SW.out.pl.below C2.out.bel) (by show pl.length ≤ 1000000; omega)).mono ?_
      rintro r w3 ⟨rfl, hw3⟩
      have B3 : Hid (Below w2.heap.size w2 w3) := by
        show Below _ _ _
        rw [hw3]
        exact below_alloc _ _
      have L3 : Hid (w3.heap[w2.heap.size]? = some (.cells (row pl) 3 (0, 0))) := by
        show _ = _
        rw [hw3]
        exact heap_new _ _
      have s3 := De.heap_lt L3.out
      have C3 := hide (C2.out.below B3.out)
      have PF3 := hide (PF2.out.below B3.out (by omega))
      obtain ⟨x0, x1, x2, x3, x4⟩ := sc_cells C3.out.bx
      have fz3 := frozen_of C3.out.bx 3
      have K4 := (De.KB.refl w.heap.size w3).setCell 3 (.slice (some ⟨w2.heap.size, 0, none⟩) pl.length pl.length)
      have C4 := hide (C3.out.box (u3 := .slice (some ⟨w2.heap.size, 0, none⟩) pl.length pl.length) 3 _ rfl)
      have PF4 := hide (PF3.out.kb K4 (by omega))
      have L4 := hide (K4.heap L3.out (by omega))
      have s4 := K4.size
      clear hw3 K4
      go_wp2_with fail
      refine (copied_int da dr dc _ (SW.out.dr.below C4.out.bel) (by show dr.length ≤ 1000000; omega)).mono ?_
      generalize hW4 : w3.setCell ⟨w.heap.size, 3, none⟩ (.slice (some ⟨w2.heap.size, 0, none⟩) pl.length pl.length) = W4 at C4 PF4 L4 s4 ⊢
      rintro r w5 ⟨rfl, hw5⟩
      have B5 : Hid (Below W4.heap.size W4 w5) := by
        show Below _ _ _
        rw [hw5]
        exact below_alloc _ _
      have D5 : Hid (w5.heap[W4.heap.size]? = some (.cells (row dr) 3 (0, 0))) := by
        show _ = _
        rw [hw5]
        exact heap_new _ _
      have C5 := hide (C4.out.below B5.out)
      have PF5 := hide (PF4.out.below B5.out (by omega))
      have L5 := hide (heap_below L4.out B5.out)
      obtain ⟨x0, x1, x2, x3, x4⟩ := sc_cells C5.out.bx
      have fz4 := frozen_of C5.out.bx 4
      have K6 := (De.KB.refl w.heap.size w5).setCell 4 (.slice (some ⟨W4.heap.size, 0, none⟩) dr.length dr.length)
      have C6 := hide (C5.out.box (u4 := .slice (some ⟨W4.heap.size, 0, none⟩) dr.length dr.length) 4 _ rfl)
      have PF6 := hide (PF5.out.kb K6 (by omega))
      have L6 := hide (K6.heap L5.out (by omega))
      have D6 := hide (K6.heap D5.out (by omega))
      obtain ⟨y0, y1, y2, y3, y4⟩ := sc_cells C6.out.bx
      obtain ⟨r0, r1, r2, r3, r4⟩ := sc_cells C6.out.zr
      have q0 := frozen_of C6.out.zr 0
      have q1 := frozen_of C6.out.zr 1
      have q2 := frozen_of C6.out.zr 2
      have q3 := frozen_of C6.out.zr 3
      have q4 := frozen_of C6.out.zr 4
      clear hw5 K6 hW4
      go_wp2_with fail
      have KZ := fun (u0 u1 u2 u3 u4 : Value) => (((((De.KB.refl (w.heap.size + 1) (w5.setCell ⟨w.heap.size, 4, none⟩ (.slice (some ⟨W4.heap.size, 0, none⟩) dr.length dr.length))).setCell 0 u0).setCell 1 u1).setCell 2 u2).setCell 3 u3).setCell 4 u4
      have hL2 : w.heap.size + 1 + 1 < w2.heap.size := by omega
      exact bodyPost_ret (results_row1 Try.results22 _ _ _ _ rfl (loadVar_sc (five_set C6.out.zr _ _ _ _ _) rfl)) rfl ⟨⟨w.heap.size + 1 + 1, w2.heap.size, W4.heap.size, arr, rfl, ⟨(KZ _ _ _ _ _).heap C6.out.pr (by omega), (PF6.out.kb (KZ _ _ _ _ _) (by omega)).mono (by omega), by omega⟩, ⟨(KZ _ _ _ _ _).heap L6.out (by omega), hL2⟩, (KZ _ _ _ _ _).heap D6.out (by omega), by omega⟩, De.KB.below C6.out.bel (KZ _ _ _ _ _) (by omega)⟩
end Sh
end Go.Proofs.Ytocmdehpbipmlaa
