/- Package entry: Encode, over this seat's program. -/
import Derived.Test.YtlcaelfkgillmaaNf
import Derived.Test.YtlcaelfkgillmaaNg
namespace Go.Proofs.Ytlcaelfkgillmaa
open Go.ChangeShapes Go.WideShapes Go.ChangeAt Go.RowKit
namespace En
open Ba Re

/-! ### what a right event's fields are at most -/
theorem vm_b (e : Ev) : 0 ≤ vm e ∧ vm e ≤ 99 := by unfold vm; split <;> omega
theorem ml_b (e : Ev) : -1 ≤ ml e := by unfold ml; split <;> omega
theorem mh_b (e : Ev) : mh e ≤ 511 := by
  unfold mh
  split
  · omega
  · split <;> omega
theorem spn_b (e : Ev) (j : Nat) (hj : j < 5) : -1 ≤ nth (spn e) (j * 2) ∧ nth (spn e) (j * 2 + 1) ≤ 511 := by
  have h1 := vm_b e
  have h2 := ml_b e
  have h3 := mh_b e
  have key : ∀ p0 p1 p2 p3 p4 p5 p6 p7 p8 p9 : Int, (-1 ≤ p0 ∧ p1 ≤ 511) → (-1 ≤ p2 ∧ p3 ≤ 511) → (-1 ≤ p4 ∧ p5 ≤ 511) → (-1 ≤ p6 ∧ p7 ≤ 511) → (-1 ≤ p8 ∧ p9 ≤ 511) → -1 ≤ nth [p0, p1, p2, p3, p4, p5, p6, p7, p8, p9] (j * 2) ∧ nth [p0, p1, p2, p3, p4, p5, p6, p7, p8, p9] (j * 2 + 1) ≤ 511 := by
    intro p0 p1 p2 p3 p4 p5 p6 p7 p8 p9 a0 a1 a2 a3 a4
    match j, hj with
    | 0, _ => exact a0
    | 1, _ => exact a1
    | 2, _ => exact a2
    | 3, _ => exact a3
    | 4, _ => exact a4
  unfold spn
  repeat' split
  all_goals exact key _ _ _ _ _ _ _ _ _ _ (by omega) (by omega) (by omega) (by omega) (by omega)
theorem chk_zero {e : Ev} (h : chk e = 0) : (1 ≤ e.k ∧ e.k ≤ 13) ∧ ff e = true ∧ okF e = true := by
  unfold chk at h
  split at h
  · omega
  · split at h
    · rename_i h1 h2
      rw [Bool.and_eq_true] at h2
      exact ⟨by omega, h2⟩
    · omega
theorem okA_b {e : Ev} {j : Nat} (hj : j < 5) (h : okA e j = true) : -1 ≤ nth (fl e) j ∧ nth (fl e) j ≤ 511 := by
  have hb := spn_b e j hj
  unfold okA inS at h
  simp at h
  omega
theorem fl_b {e : Ev} (h : okF e = true) : ∀ x ∈ fl e, -1 ≤ x ∧ x ≤ 511 := by
  intro x hx
  obtain ⟨j, hj, rfl⟩ := List.getElem_of_mem hx
  have hj5 : j < 5 := hj
  have := okA_b hj5 (okF_at h j hj5)
  rw [nth_lt _ j hj] at this
  exact this
theorem fg_b (e : Ev) : 0 ≤ fg e ∧ fg e ≤ 3 := by
  unfold fg
  split <;> split <;> omega
theorem nm_b {e : Ev} (h : chk e = 0) : ∀ k, k < (nm e).length → 0 ≤ nth (nm e) k ∧ nth (nm e) k ≤ 512 := by
  obtain ⟨hk, _, hf⟩ := chk_zero h
  have hg := fl_b hf e.g (by simp [fl])
  have hc := fl_b hf e.c (by simp [fl])
  have ha := fl_b hf e.a (by simp [fl])
  have hv := fl_b hf e.v (by simp [fl])
  have hm := fl_b hf e.m (by simp [fl])
  have hq := fg_b e
  intro k hk2
  have hk7 : k < 7 := hk2
  match k, hk7 with
  | 0, _ => show 0 ≤ e.k ∧ e.k ≤ 512; omega
  | 1, _ => show 0 ≤ e.g + 1 ∧ e.g + 1 ≤ 512; omega
  | 2, _ => show 0 ≤ e.c + 1 ∧ e.c + 1 ≤ 512; omega
  | 3, _ => show 0 ≤ e.a + 1 ∧ e.a + 1 ≤ 512; omega
  | 4, _ => show 0 ≤ e.v + 1 ∧ e.v + 1 ≤ 512; omega
  | 5, _ => show 0 ≤ e.m + 1 ∧ e.m + 1 ≤ 512; omega
  | 6, _ => show 0 ≤ fg e ∧ fg e ≤ 512; omega
/-! ### bytes -/
def pls (l : List Int) : List Nat := l.flatMap fun n => spl n.toNat
theorem pls_take (l : List Int) (k : Nat) (h : k < l.length) : pls (l.take (k + 1)) = pls (l.take k) ++ spl (nth l k).toNat := by
  unfold pls
  rw [List.take_add_one, List.getElem?_eq_getElem h, List.flatMap_append, nth_lt l k h]
  simp
theorem pls_len (l : List Int) : (pls l).length ≤ 7 * l.length := by
  unfold pls
  induction l with
  | nil => simp
  | cons x l ih =>
    have := (spl_len x.toNat).2
    simp only [List.flatMap_cons, List.length_append, List.length_cons]
    omega
/-- an event's bytes -/
def enc (e : Ev) : List Nat := pls (nm e)
theorem enc_len (e : Ev) : (enc e).length ≤ 49 := pls_len (nm e)
theorem ix7_0 (x0 x1 x2 x3 x4 x5 x6 : Int) (w : World) : (Instr.index 57 (.agg (row [x0, x1, x2, x3, x4, x5, x6])) (.int .i64 0)).run Try.prog w = .ok (.int .i64 x0) w := by kernel_rfl
theorem ix7_1 (x0 x1 x2 x3 x4 x5 x6 : Int) (w : World) : (Instr.index 57 (.agg (row [x0, x1, x2, x3, x4, x5, x6])) (.int .i64 1)).run Try.prog w = .ok (.int .i64 x1) w := by kernel_rfl
theorem ix7_2 (x0 x1 x2 x3 x4 x5 x6 : Int) (w : World) : (Instr.index 57 (.agg (row [x0, x1, x2, x3, x4, x5, x6])) (.int .i64 2)).run Try.prog w = .ok (.int .i64 x2) w := by kernel_rfl
theorem ix7_3 (x0 x1 x2 x3 x4 x5 x6 : Int) (w : World) : (Instr.index 57 (.agg (row [x0, x1, x2, x3, x4, x5, x6])) (.int .i64 3)).run Try.prog w = .ok (.int .i64 x3) w := by kernel_rfl
theorem ix7_4 (x0 x1 x2 x3 x4 x5 x6 : Int) (w : World) : (Instr.index 57 (.agg (row [x0, x1, x2, x3, x4, x5, x6])) (.int .i64 4)).run Try.prog w = .ok (.int .i64 x4) w := by kernel_rfl
theorem ix7_5 (x0 x1 x2 x3 x4 x5 x6 : Int) (w : World) : (Instr.index 57 (.agg (row [x0, x1, x2, x3, x4, x5, x6])) (.int .i64 5)).run Try.prog w = .ok (.int .i64 x5) w := by kernel_rfl
theorem ix7_6 (x0 x1 x2 x3 x4 x5 x6 : Int) (w : World) : (Instr.index 57 (.agg (row [x0, x1, x2, x3, x4, x5, x6])) (.int .i64 6)).run Try.prog w = .ok (.int .i64 x6) w := by kernel_rfl
theorem ix7 (l : List Int) (hl : l.length = 7) (k : Nat) (hk : k < 7) (w : World) : (Instr.index 57 (.agg (row l)) (.int .i64 (k : Int))).run Try.prog w = .ok (.int .i64 (nth l k)) w := by
  match l, hl with
  | [x0, x1, x2, x3, x4, x5, x6], _ =>
    match k, hk with
    | 0, _ => exact ix7_0 x0 x1 x2 x3 x4 x5 x6 w
    | 1, _ => exact ix7_1 x0 x1 x2 x3 x4 x5 x6 w
    | 2, _ => exact ix7_2 x0 x1 x2 x3 x4 x5 x6 w
    | 3, _ => exact ix7_3 x0 x1 x2 x3 x4 x5 x6 w
    | 4, _ => exact ix7_4 x0 x1 x2 x3 x4 x5 x6 w
    | 5, _ => exact ix7_5 x0 x1 x2 x3 x4 x5 x6 w
    | 6, _ => exact ix7_6 x0 x1 x2 x3 x4 x5 x6 w
theorem encode_no (e : Ev) (w : World) (x : Int) (hx : chk e = x) (h0 : (x != 0) = true) :
    Calls Try.prog 9 #[evv e] w fun r w' => r = .returned (.tuple #[.string (bs []), .int .i64 x]) ∧ Below w.heap.size w w' := by
  have CH := hide fun u => check_any e u
  have BA := hide (below_alloc w (.cells (evc e) 23))
  rw [hx] at CH
  clear hx
  obtain ⟨k, g, c, a, v, m, s, o⟩ := e
  unfold evv evc at CH ⊢
  simp only [evc] at BA
  go_enter Try.func9, Try.ntmps9
  go_wp2_with fail
  refine (CH.out _).mono ?_
  rintro r w1 ⟨rfl, b1⟩
  have B1 := hide (btr BA.out b1)
  clear b1
  go_wp2_with fail
  go_ret2
  exact ⟨rfl, B1.out⟩
/-- what Encode holds in memory: the event, the builder -/
structure EnW (w u : World) (N b : Nat) (e : Ev) (L : List Nat) : Prop where
  ev : u.heap[N]? = some (.cells (evc e) 23 (0, 0))
  bl : BL u b (bs L)
  bel : Below N w u
  lt : N < b ∧ b < u.heap.size
theorem EnW.below {w u v : World} {N b : Nat} {e : Ev} {L : List Nat} (h : EnW w u N b e L) (hb : Below u.heap.size u v) : EnW w v N b e L :=
  ⟨heap_below h.ev hb, h.bl.below hb, h.bel.trans (hb.mono (by have := heap_lt h.ev; omega)), h.lt.1, Nat.lt_of_lt_of_le h.lt.2 hb.size⟩
theorem EnW.bk {w u v : World} {N b : Nat} {e : Ev} {L L' : List Nat} (h : EnW w u N b e L) (k : BK b u v) (hl : BL v b (bs L')) : EnW w v N b e L' :=
  ⟨(k.bel.block _ h.lt.1).trans h.ev, hl, h.bel.trans (k.bel.mono (Nat.le_of_lt h.lt.1)), h.lt.1, Nat.lt_of_lt_of_le h.lt.2 k.bel.size⟩
set_option maxRecDepth 100000 in
set_option maxHeartbeats 3200000 in
theorem encode_ok (e : Ev) (w : World) (h : chk e = 0) :
    Calls Try.prog 9 #[evv e] w fun r w' => r = .returned (.tuple #[.string (bs (enc e)), .int .i64 0]) ∧ Below w.heap.size w w' := by
  have CH := hide fun u => check_any e u
  have BA := hide (below_alloc w (.cells (evc e) 23))
  have HE := hide (heap_new w (.cells (evc e) 23))
  have NU := hide fun u => numbers_any e u (fun x hx => by have := fl_b (chk_zero h).2.2 x hx; omega)
  have NB := hide (nm_b h)
  have NL : Hid ((nm e).length = 7) := rfl
  have IX := hide (ix7 (nm e) rfl)
  rw [h] at CH
  clear h
  unfold enc
  generalize nm e = l at NU NB NL IX ⊢
  obtain ⟨k, g, c, a, v, m, s, o⟩ := e
  have W0 : Hid (∀ w1 : World, Below (w.alloc (.cells (evc ⟨k, g, c, a, v, m, s, o⟩) 23)).heap.size (w.alloc (.cells (evc ⟨k, g, c, a, v, m, s, o⟩) 23)) w1 → EnW w (w1.alloc (.cells #[.pointer none, .slice none 0 0] 55)) w.heap.size w1.heap.size ⟨k, g, c, a, v, m, s, o⟩ []) := by
    intro w1 b1
    have q := heap_below HE.out b1
    have hs := World.size_alloc w1 (.cells #[.pointer none, .slice none 0 0] 55)
    exact ⟨heap_below q (below_alloc _ _), BL.fresh w1, btr (btr BA.out b1) (below_alloc _ _), heap_lt q, by rw [hs]; omega⟩
  unfold evv evc at CH NU ⊢
  simp only [evc] at W0
  clear BA HE
  go_enter Try.func9, Try.ntmps9
  go_wp2_with fail
  refine (CH.out _).mono ?_
  rintro r w1 ⟨rfl, b1⟩
  have E1 := hide (W0.out _ b1)
  have hq := E1.out.lt
  have q1 := World.size_alloc w1 (.cells #[.pointer none, .slice none 0 0] 55)
  rw [q1] at hq
  have y : ∀ i : Nat, (w1.alloc (.cells #[.pointer none, .slice none 0 0] 55)).cell? ⟨w.heap.size, i, none⟩ = (evc ⟨k, g, c, a, v, m, s, o⟩)[i]? := fun i => cell_of E1.out.ev i
  have Y := hide y
  clear y b1 W0 CH q1
  have y0 : (w1.alloc (.cells #[.pointer none, .slice none 0 0] 55)).cell? ⟨w.heap.size, 0, none⟩ = some (.int .i64 k) := Y.out 0
  have y1 : (w1.alloc (.cells #[.pointer none, .slice none 0 0] 55)).cell? ⟨w.heap.size, 1, none⟩ = some (.int .i64 g) := Y.out 1
  have y2 : (w1.alloc (.cells #[.pointer none, .slice none 0 0] 55)).cell? ⟨w.heap.size, 2, none⟩ = some (.int .i64 c) := Y.out 2
  have y3 : (w1.alloc (.cells #[.pointer none, .slice none 0 0] 55)).cell? ⟨w.heap.size, 3, none⟩ = some (.int .i64 a) := Y.out 3
  have y4 : (w1.alloc (.cells #[.pointer none, .slice none 0 0] 55)).cell? ⟨w.heap.size, 4, none⟩ = some (.int .i64 v) := Y.out 4
  have y5 : (w1.alloc (.cells #[.pointer none, .slice none 0 0] 55)).cell? ⟨w.heap.size, 5, none⟩ = some (.int .i64 m) := Y.out 5
  have y6 : (w1.alloc (.cells #[.pointer none, .slice none 0 0] 55)).cell? ⟨w.heap.size, 6, none⟩ = some (.bool s) := Y.out 6
  have y7 : (w1.alloc (.cells #[.pointer none, .slice none 0 0] 55)).cell? ⟨w.heap.size, 7, none⟩ = some (.bool o) := Y.out 7
  have E1w : Hid (∀ i x, (evc ⟨k, g, c, a, v, m, s, o⟩)[i]? = some x → w1.cell? ⟨w.heap.size, i, none⟩ = some x) := by
    intro i x hx
    have := Y.out i
    rw [hx] at this
    rw [← this]
    exact ((below_alloc w1 (.cells #[.pointer none, .slice none 0 0] 55)).cell (p := ⟨w.heap.size, i, none⟩) hq.1).symm
  have x0 : w1.cell? ⟨w.heap.size, 0, none⟩ = some (.int .i64 k) := E1w.out 0 _ rfl
  have x1 : w1.cell? ⟨w.heap.size, 1, none⟩ = some (.int .i64 g) := E1w.out 1 _ rfl
  have x2 : w1.cell? ⟨w.heap.size, 2, none⟩ = some (.int .i64 c) := E1w.out 2 _ rfl
  have x3 : w1.cell? ⟨w.heap.size, 3, none⟩ = some (.int .i64 a) := E1w.out 3 _ rfl
  have x4 : w1.cell? ⟨w.heap.size, 4, none⟩ = some (.int .i64 v) := E1w.out 4 _ rfl
  have x5 : w1.cell? ⟨w.heap.size, 5, none⟩ = some (.int .i64 m) := E1w.out 5 _ rfl
  have x6 : w1.cell? ⟨w.heap.size, 6, none⟩ = some (.bool s) := E1w.out 6 _ rfl
  have x7 : w1.cell? ⟨w.heap.size, 7, none⟩ = some (.bool o) := E1w.out 7 _ rfl
  go_wp2_with fail
  generalize w1.alloc (.cells #[.pointer none, .slice none 0 0] 55) = W2 at E1 Y y0 y1 y2 y3 y4 y5 y6 y7 ⊢
  generalize w1.heap.size = b at E1 hq ⊢
  refine (NU.out _).mono ?_
  rintro r w2 ⟨rfl, b2⟩
  have E2 := hide (E1.out.below b2)
  clear b2 E1 Y E1w x0 x1 x2 x3 x4 x5 x6 x7 y0 y1 y2 y3 y4 y5 y6 y7 NU hq
  go_wp2_with fail
  go_loopw [17] (fun i wr => ∃ j : Nat, j ≤ 7 ∧ i = .int .i64 j ∧ EnW w wr w.heap.size b ⟨k, g, c, a, v, m, s, o⟩ (pls (l.take j))) (fun i _ => 7 - (intOf i).toNat)
  case atStart => exact ⟨0, Nat.zero_le _, rfl, E2.out⟩
  case round =>
    clear E2
    obtain ⟨j, hj, rfl, e3⟩ := hrel
    have E3 := hide e3
    clear e3
    by_cases hlt : j < 7
    · have hlt' : (j : Int) < 7 := by omega
      have hix := fun u => IX.out j hlt u
      have hb := NB.out j (by rw [NL.out]; exact hlt)
      have PS := pls_take l j (by rw [NL.out]; exact hlt)
      obtain ⟨n, hn⟩ := Int.eq_ofNat_of_zero_le hb.1
      have hn2 : n ≤ 1099511627776 := by omega
      rw [hn, Int.toNat_natCast] at PS
      have HPS := hide PS
      rw [hn] at hix
      have hpl := pls_len (l.take j)
      rw [List.length_take] at hpl
      have hsl := (spl_len n).2
      clear hn PS hb
      go_wp2_with fail
      refine (put_ok n hn2 _).mono ?_
      rintro r w4 ⟨rfl, b4⟩
      have E4 := hide (E3.out.below b4)
      clear b4 E3
      go_wp2_with fail
      refine (write_bs b _ _ _ E4.out.bl (by omega) E4.out.lt.2).mono ?_
      rintro r w5 ⟨⟨mm, rfl⟩, h5, k5⟩
      have E5 := hide (E4.out.bk k5 h5)
      rw [← HPS.out] at E5
      clear h5 k5 E4
      go_wp2_with fail
      go_roundw
      case rel => exact ⟨j + 1, by omega, by go_num, E5.out⟩
      case measure => simp [intOf]; omega
    · have hlt' : ¬ ((j : Int) < 7) := by omega
      rw [List.take_of_length_le (by rw [NL.out]; omega)] at E3
      go_wp2_with fail
      refine (string_any b _ _ E3.out.bl (Nat.le_of_lt E3.out.lt.2)).mono ?_
      rintro r w6 ⟨rfl, k6⟩
      have B6 := hide (E3.out.bel.trans (k6.bel.mono (Nat.le_of_lt E3.out.lt.1)))
      clear k6
      go_wp2_with fail
      go_ret2
      exact ⟨rfl, B6.out⟩
end En
end Go.Proofs.Ytlcaelfkgillmaa
