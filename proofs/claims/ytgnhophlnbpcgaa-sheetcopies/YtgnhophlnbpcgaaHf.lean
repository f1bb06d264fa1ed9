/- Package sheet: the reader, over this seat's program. -/
import Derived.Test.YtgnhophlnbpcgaaHe
namespace Go.Proofs.Ytgnhophlnbpcgaa
open Go.ChangeShapes Go.WideShapes Go.ChangeAt Go.RowKit
namespace Sh
open De Ba Re

/-- a number that is not above m, and how many bytes it has -/
def up1 (m : Int) (L : List Nat) : Option (Nat × Nat) := match tk L with
  | none => none
  | some (n, k) => if (n : Int) ≤ m then some (n, k) else none
/-- the reader in block R: z bytes of s are read; has it failed? -/
def RD2 (w : World) (R : Nat) (s : ByteArray) (z : Nat) (f : Bool) : Prop := w.heap[R]? = some (.cells #[.string (s.extract z s.size), .bool f] 88 (0, 0))
/-- numbers up to limits: what they are, where one stands behind them, has it failed? -/
def ul (s : ByteArray) : List Int → Nat → Bool → List Int × Nat × Bool
  | [], z, f => ([], z, f)
  | m :: t, z, f => match f, up1 m ((nbs s).drop z) with
    | false, some (n, k) => ((n : Int) :: (ul s t (z + k) false).1, (ul s t (z + k) false).2)
    | _, _ => (List.replicate (t.length + 1) 0, z, true)
theorem ul_len (s : ByteArray) (l : List Int) (z : Nat) (f : Bool) : (ul s l z f).1.length = l.length := by
  induction l generalizing z f with
  | nil => rfl
  | cons m t ih =>
    unfold ul
    split
    · simp [ih]
    · simp
theorem ul_t (s : ByteArray) (l : List Int) (z : Nat) (h : l ≠ []) : ul s l z true = (List.replicate l.length 0, z, true) := by
  cases l with
  | nil => exact absurd rfl h
  | cons m t => simp [ul]
theorem ul_n (s : ByteArray) (m : Int) (t : List Int) (z : Nat) (f : Bool) (h : up1 m ((nbs s).drop z) = none) : ul s (m :: t) z f = (List.replicate (t.length + 1) 0, z, true) := by
  cases f <;> simp [ul, h]
theorem ul_s (s : ByteArray) (m : Int) (t : List Int) (z n k : Nat) (h : up1 m ((nbs s).drop z) = some (n, k)) : ul s (m :: t) z false = ((n : Int) :: (ul s t (z + k) false).1, (ul s t (z + k) false).2) := by
  simp [ul, h]
theorem kb_at {R : Nat} {w w' : World} {oa : Option Addr} {l : List Int} (k : De.KB R w w') (h : At w oa l) (hb : ∀ a, oa = some a → a.block ≠ R) : At w' oa l := by
  intro j hj
  obtain ⟨b, off, rfl, hc⟩ := h j hj
  exact ⟨b, off, rfl, kb_cell k hc (hb _ rfl)⟩
theorem up1_n {m : Int} {L : List Nat} (h : tk L = none) : up1 m L = none := by simp [up1, h]
theorem up1_b {m : Int} {L : List Nat} {n k : Nat} (h : tk L = some (n, k)) (hb : m < (n : Int)) : up1 m L = none := by
  simp only [up1, h]
  rw [if_neg (by omega)]
theorem up1_s {m : Int} {L : List Nat} {n k : Nat} (h : tk L = some (n, k)) (hb : (n : Int) ≤ m) : up1 m L = some (n, k) := by
  simp only [up1, h]
  rw [if_pos hb]
theorem set_mid (V : List Int) (n : Nat) (x : Int) (k : Nat) (h : V.length = k) : (V ++ List.replicate (n + 1) 0).set k x = (V ++ [x]) ++ List.replicate n 0 := by
  subst h
  rw [List.replicate_succ, List.set_append_right _ _ (Nat.le_refl _), Nat.sub_self, List.set_cons_zero, List.append_assoc]
  rfl
theorem sfx2 (s : ByteArray) (a b : Nat) : (s.extract a s.size).extract b (s.size - a) = s.extract (a + b) s.size := by
  rw [← sfx_sfx]
  congr 1
  simp [ByteArray.size_extract]
theorem row_set (l : List Int) (k : Nat) (x : Int) : (row l).setIfInBounds k (.int .i64 x) = row (l.set k x) := by
  apply Array.toList_inj.1
  simp [row, List.map_set]

set_option maxRecDepth 100000 in
set_option maxHeartbeats 3200000 in
theorem upTo_any (R : Nat) (s : ByteArray) (z : Nat) (f : Bool) (oa : Option Addr) (l : List Int) (c : Nat) (w : World) (hR : RD2 w R s z f) (hA : At w oa l) (hne : ∀ a, oa = some a → a.block ≠ R) (hl : l.length ≤ 3) (hz : z ≤ s.size) :
    Calls Try.prog 46 #[.pointer (some ⟨R, 0, none⟩), .slice oa l.length c] w fun r w' => r = .returned (.slice (some ⟨w.heap.size, 0, none⟩) l.length l.length) ∧ w'.heap[w.heap.size]? = some (.cells (row (ul s l z f).1) 3 (0, 0)) ∧ (RD2 w' R s (ul s l z f).2.1 (ul s l z f).2.2 ∧ (ul s l z f).2.1 ≤ s.size) ∧ De.KB R w w' := by
  obtain ⟨i0, hi, hz0, hz1, hz2⟩ := info_parts Ba.info_int
  have hm := run_mkG Try.underlying36 hi hz0 w l.length (by rw [hz2]; omega) (by omega)
  have hmc : madeCells (Value.cells (.int .i64 0)) (l.length * i0.size) = row (List.replicate l.length 0) := by
    rw [hz1, Nat.mul_one]
    apply Array.ext
    · simp [row, size_madeCells]
    · intro i h1 h2
      simp [madeCells, row, Value.cells, Nat.mod_one]
  rw [hmc] at hm
  have hRlt := De.heap_lt hR
  have HR := hide (heap_below hR (below_alloc w (.cells (row (List.replicate l.length 0)) 3)))
  have HA := hide hA
  have HG := hide (heap_new w (.cells (row (List.replicate l.length 0)) 3))
  have HK := hide (De.KB.of (R := R) (below_alloc w (.cells (row (List.replicate l.length 0)) 3)))
  have HN := hide hne
  clear hR hA hmc hz0 hz1 hz2 hi hne
  go_enter Try.func46, Try.ntmps46
  go_wp2_with fail
  have hwz : (w.alloc (.cells (row (List.replicate l.length 0)) 3)).heap.size = w.heap.size + 1 := World.size_alloc _ _
  have HW := hide hwz
  clear hwz hm
  generalize w.alloc (.cells (row (List.replicate l.length 0)) 3) = W at HR HG HK HW ⊢
  go_loopw [16] (fun i wr => ∃ (k zk : Nat) (fk : Bool) (V : List Int), k ≤ l.length ∧ i = .int .i64 k ∧ zk ≤ s.size ∧ V.length = k ∧ (RD2 wr R s zk fk ∧ wr.heap[w.heap.size]? = some (.cells (row (V ++ List.replicate (l.length - k) 0)) 3 (0, 0)) ∧ De.KB R w wr) ∧ (ul s l z f).1 = V ++ (ul s (l.drop k) zk fk).1 ∧ (ul s l z f).2 = (ul s (l.drop k) zk fk).2) (fun i _ => l.length - (intOf i).toNat)
  case atStart => exact ⟨0, z, f, [], Nat.zero_le _, rfl, hz, rfl, ⟨HR.out, by simpa using HG.out, HK.out⟩, rfl, rfl⟩
  case round =>
    obtain ⟨k, zk, fk, V, hk, rfl, hzk, hV, ⟨h1, h2, h3⟩, h4, h5⟩ := hrel
    have H1 := hide h1
    have H2 := hide h2
    have H3 := hide h3
    have H4 := hide h4
    have H5 := hide h5
    have c0 := cell_of h1 0
    have c1 := cell_of h1 1
    have f0 := frozen_of h1 0
    have f1 := frozen_of h1 1
    simp at c0 c1
    clear h1 h2 h3 h4 h5 HR HG HK
    by_cases hlt : k < l.length
    · have hlt' : (k : Int) < (l.length : Int) := by omega
      have ed : l.drop k = nth l k :: l.drop (k + 1) := by
        rw [nth_lt l k hlt]
        exact List.drop_eq_getElem_cons hlt
      obtain ⟨lb, lo, rfl, hlc⟩ := (kb_at H3.out HA.out HN.out) k hlt
      have hwR : w.heap.size ≠ R := by omega
      cases ht : tk ((nbs s).drop zk) with
      | none =>
        have HT := hide ht
        have UN := hide (ul_n s (nth l k) (l.drop (k + 1)) zk fk (up1_n ht))
        clear ht
        go_wp2_with fail
        refine (take_none _ (by rw [nsfx rfl]; exact HT.out) _).mono ?_
        rintro r w4 ⟨rfl, b4⟩
        have X1 := hide (heap_below H1.out b4)
        have X3 := hide (H3.out.trans (De.KB.of b4))
        have X2 : Hid ((w4.setCell ⟨R, 1, none⟩ (.bool true)).heap[w.heap.size]? = some (.cells (row (V ++ List.replicate ((l.drop (k + 1)).length + 1) 0)) 3 (0, 0))) := by
          have := (Below.heap_setCell w4 ⟨R, 1, none⟩ (.bool true) w.heap.size hwR).trans (heap_below H2.out b4)
          rw [List.length_drop, show l.length - (k + 1) + 1 = l.length - k by omega]
          exact this
        have d1 := cell_of X1.out 1
        have g1 := frozen_of X1.out 1
        simp at d1
        clear b4
        cases fk
        · go_wp2_with fail
          go_ret
          exact ⟨rfl, by rw [H4.out, ed, UN.out]; exact X2.out, by rw [H5.out, ed, UN.out]; exact ⟨Ba.heap_setCell_same X1.out (i := 1) (.bool true), hzk⟩, X3.out.setCell 1 _⟩
        · go_wp2_with fail
          go_ret
          exact ⟨rfl, by rw [H4.out, ed, UN.out]; exact X2.out, by rw [H5.out, ed, UN.out]; exact ⟨Ba.heap_setCell_same X1.out (i := 1) (.bool true), hzk⟩, X3.out.setCell 1 _⟩
      | some q =>
        obtain ⟨n, kk⟩ := q
        have HT := hide ht
        have hkk := Re.tk_le ht
        have hnb := Re.tk_bound ht
        rw [List.length_drop, nbs_length] at hkk
        cases fk
        · by_cases hn : nth l k < (n : Int)
          · have hn' : decide (nth l k < (n : Int)) = true := by simpa using hn
            have UN := hide (ul_n s (nth l k) (l.drop (k + 1)) zk false (up1_b ht hn))
            clear ht hn
            go_wp2_with fail
            refine (take_some _ n kk (by rw [nsfx rfl]; exact HT.out) _).mono ?_
            rintro r w4 ⟨rfl, b4⟩
            have X1 := hide (heap_below H1.out b4)
            have X3 := hide (H3.out.trans (De.KB.of b4))
            have X2 : Hid ((w4.setCell ⟨R, 1, none⟩ (.bool true)).heap[w.heap.size]? = some (.cells (row (V ++ List.replicate ((l.drop (k + 1)).length + 1) 0)) 3 (0, 0))) := by
              have := (Below.heap_setCell w4 ⟨R, 1, none⟩ (.bool true) w.heap.size hwR).trans (heap_below H2.out b4)
              rw [List.length_drop, show l.length - (k + 1) + 1 = l.length - k by omega]
              exact this
            have d1 := cell_of X1.out 1
            have g1 := frozen_of X1.out 1
            simp at d1
            clear b4
            go_wp2_with fail
            go_ret
            exact ⟨rfl, by rw [H4.out, ed, UN.out]; exact X2.out, by rw [H5.out, ed, UN.out]; exact ⟨Ba.heap_setCell_same X1.out (i := 1) (.bool true), hzk⟩, X3.out.setCell 1 _⟩
          · have hn' : decide (nth l k < (n : Int)) = false := by simpa using hn
            have US := hide (ul_s s (nth l k) (l.drop (k + 1)) zk n kk (up1_s ht (by omega)))
            clear ht hn
            go_wp2_with fail
            refine (take_some _ n kk (by rw [nsfx rfl]; exact HT.out) _).mono ?_
            rintro r w4 ⟨rfl, b4⟩
            have X1 := hide (heap_below H1.out b4)
            have X2 := hide (heap_below H2.out b4)
            have X3 := hide (H3.out.trans (De.KB.of b4))
            have d0 := cell_of X1.out 0
            have d1 := cell_of X1.out 1
            have g0 := frozen_of X1.out 0
            have e0 := frozen_of X2.out k
            have e1 : ∃ v, w4.cell? ⟨w.heap.size, k, none⟩ = some v := by
              rw [cell_of X2.out]
              exact ⟨_, Array.getElem?_eq_getElem (by rw [row_size, List.length_append, List.length_replicate]; omega)⟩
            obtain ⟨v, e1⟩ := e1
            simp at d0 d1
            clear b4
            go_wp2_with fail
            go_roundw
            case rel =>
              refine ⟨k + 1, zk + kk, false, V ++ [(n : Int)], by omega, by go_num, by omega, by simp [hV], ⟨?_, ?_, ?_⟩, ?_, ?_⟩
              · rw [sfx2]
                have Y1 := (Below.heap_setCell w4 ⟨w.heap.size, k, none⟩ (.int .i64 (n : Int)) R (by show R ≠ w.heap.size; omega)).trans X1.out
                exact Ba.heap_setCell_same Y1 (i := 0) _
              · refine (Below.heap_setCell _ ⟨R, 0, none⟩ _ w.heap.size hwR).trans ?_
                rw [Ba.heap_setCell_same X2.out, row_set, show l.length - k = l.length - (k + 1) + 1 by omega, set_mid V _ _ k hV]
              · exact (kb_setCell X3.out (Nat.le_refl _) k _).setCell 0 _
              · rw [H4.out, ed, US.out]
                simp
              · rw [H5.out, ed, US.out]
            case measure => simp [intOf]; omega
        · have UN := hide (ul_t s (nth l k :: l.drop (k + 1)) zk (by simp))
          clear ht
          go_wp2_with fail
          refine (take_some _ n kk (by rw [nsfx rfl]; exact HT.out) _).mono ?_
          rintro r w4 ⟨rfl, b4⟩
          have X1 := hide (heap_below H1.out b4)
          have X3 := hide (H3.out.trans (De.KB.of b4))
          have X2 : Hid ((w4.setCell ⟨R, 1, none⟩ (.bool true)).heap[w.heap.size]? = some (.cells (row (V ++ List.replicate ((nth l k :: l.drop (k + 1)).length) 0)) 3 (0, 0))) := by
            have := (Below.heap_setCell w4 ⟨R, 1, none⟩ (.bool true) w.heap.size hwR).trans (heap_below H2.out b4)
            rw [List.length_cons, List.length_drop, show l.length - (k + 1) + 1 = l.length - k by omega]
            exact this
          have d1 := cell_of X1.out 1
          have g1 := frozen_of X1.out 1
          simp at d1
          clear b4
          go_wp2_with fail
          go_ret
          exact ⟨rfl, by rw [H4.out, ed, UN.out]; exact X2.out, by rw [H5.out, ed, UN.out]; exact ⟨Ba.heap_setCell_same X1.out (i := 1) (.bool true), hzk⟩, X3.out.setCell 1 _⟩
    · have hlt' : ¬ ((k : Int) < (l.length : Int)) := by omega
      obtain rfl : k = l.length := by omega
      have E4 := H4.out
      have E5 := H5.out
      rw [List.drop_length] at E4 E5
      simp only [ul, List.append_nil] at E4 E5
      have G2 := H2.out
      rw [Nat.sub_self, List.replicate_zero, List.append_nil] at G2
      have HG2 := hide G2
      have HE4 := hide E4
      have HE5 := hide E5
      clear E4 E5 G2
      go_wp2_with fail
      go_ret
      exact ⟨rfl, by rw [HE4.out]; exact HG2.out, by rw [HE5.out]; exact ⟨H1.out, hzk⟩, H3.out⟩
end Sh
end Go.Proofs.Ytgnhophlnbpcgaa
