/- Layer 25 (matrix), over this seat's program: New. -/
import Derived.Test.YtdfjcmlafhannaaNa4
namespace Go.Proofs.Ytdfjcmlafhannaa
open Go.ChangeShapes Go.WideShapes Go.ChangeAt Go.RowKit
namespace Mx
open Ba (KB btr heap_lt cell_of frozen_of ret_bool ret_int bdrew heap_new below_alloc heap_below)

theorem info_u : (Try.prog.info? 53).map (fun i => (i.zero, i.size, i.bytes)) = some (some (.int .u64 0), 1, 8) := by kernel_rfl
theorem info_l : (Try.prog.info? 45).map (fun i => (i.zero, i.size, i.bytes)) = some (some (.slice none 0 0), 1, 24) := by kernel_rfl
theorem info_parts {t : TypeId} {z : Option Value} {s b : Nat} (h : (Try.prog.info? t).map (fun i => (i.zero, i.size, i.bytes)) = some (z, s, b)) : ∃ i, Try.prog.info? t = some i ∧ i.zero = z ∧ i.size = s ∧ i.bytes = b := by
  cases hi : Try.prog.info? t with
  | none => rw [hi] at h; cases h
  | some i => rw [hi] at h; simp at h; exact ⟨i, rfl, h.1, h.2.1, h.2.2⟩
theorem mk_u (w : World) (n : Nat) (hn : n ≤ 1000000) : (Instr.makeSlice 45 (.int .i64 (n : Int)) (.int .i64 (n : Int))).run Try.prog w = .ok (.slice (some ⟨w.heap.size, 0, none⟩) n n) (w.alloc (.cells (madeCells #[.int .u64 0] n) 53)) := by
  obtain ⟨i0, hi, hz0, hz1, hz2⟩ := info_parts info_u
  have := run_make (P := Try.prog) w 45 53 i0 (.int .u64 0) Try.underlying45 hi hz0 .i64 .i64 n n (by omega) (Int.le_refl _) (by rw [hz2]; omega) (by omega)
  rw [hz1] at this
  simpa [Value.cells] using this
theorem mk_l (w : World) (n : Nat) (hn : n ≤ 1000000) : (Instr.makeSlice 46 (.int .i64 (n : Int)) (.int .i64 (n : Int))).run Try.prog w = .ok (.slice (some ⟨w.heap.size, 0, none⟩) n n) (w.alloc (.cells (madeCells #[.slice none 0 0] n) 45)) := by
  obtain ⟨i0, hi, hz0, hz1, hz2⟩ := info_parts info_l
  have := run_make (P := Try.prog) w 46 45 i0 (.slice none 0 0) Try.underlying46 hi hz0 .i64 .i64 n n (by omega) (Int.le_refl _) (by rw [hz2]; omega) (by omega)
  rw [hz1] at this
  simpa [Value.cells] using this
theorem made_at (z : Value) (n k : Nat) (h : k < n) : (madeCells #[z] n)[k]? = some z := by
  simp [madeCells, h, Nat.mod_one]
set_option maxHeartbeats 800000 in
theorem new_bad (n : Int) (h : n < 0 ∨ 1024 < n) (w : World) :
    Calls Try.prog 9 #[.int .i64 n] w fun e w' => e = .returned (.tuple #[.pointer none, .int .i64 1]) ∧ w' = w := by
  by_cases h1 : n < 0
  · have a1 : decide (n < 0) = true := by simpa using h1
    clear h h1
    go_enter Try.func9, Try.ntmps9
    go_wp2
    go_ret2
    exact ⟨rfl, rfl⟩
  · have a1 : decide (n < 0) = false := by simpa using h1
    have a2 : decide (1024 < n) = true := by simp; omega
    clear h h1
    go_enter Try.func9, Try.ntmps9
    go_wp2
    go_ret2
    exact ⟨rfl, rfl⟩
/-- while New lays the rows: the first k are laid -/
structure NI (w wr : World) (n L nL k : Nat) : Prop where
  wo : wr.heap[w.heap.size]? = some (.cells (madeCells #[.int .u64 0] nL) 53)
  hd : wr.heap[w.heap.size + 2]? = some (.cells #[.slice (some ⟨w.heap.size + 1, 0, none⟩) n n] 48)
  row : ∀ i, i < k → wr.cell? ⟨w.heap.size + 1, i, none⟩ = some (.slice (some ⟨w.heap.size, i * L, none⟩) L L)
  rest : ∀ i, k ≤ i → i < n → wr.cell? ⟨w.heap.size + 1, i, none⟩ = some (.slice none 0 0)
  fr : ∀ i, wr.frozen? ⟨w.heap.size + 1, i, none⟩ = false
  bl : Below w.heap.size w wr
theorem NI.step {w wr : World} {n L nL k : Nat} (h : NI w wr n L nL k) (hk : k < n) : NI w (wr.setCell ⟨w.heap.size + 1, k, none⟩ (.slice (some ⟨w.heap.size, k * L, none⟩) L L)).drew n L nL (k + 1) := by
  refine ⟨(heap_set (by omega)).trans h.wo, (heap_set (by omega)).trans h.hd, ?_, ?_, ?_, ?_⟩
  · intro i hi
    by_cases e : i = k
    · subst e; exact World.cell?_setCell_same _ _ _ (h.rest i (Nat.le_refl _) hk)
    · refine Eq.trans (World.cell?_setCell_other _ _ _ _ ?_) (h.row i (by omega))
      intro q; simp only [Addr.mk.injEq, true_and, and_true] at q; omega
  · intro i hi hn
    refine Eq.trans (World.cell?_setCell_other _ _ _ _ ?_) (h.rest i (by omega) hn)
    intro q; simp only [Addr.mk.injEq, true_and, and_true] at q; omega
  · intro i
    exact (World.frozen?_setCell _ _ _ _).trans (h.fr i)
  · exact (h.bl.setCell (by simp) _).trans (Ba.bdrew1 _ |>.mono (by
      have := h.bl.size
      show w.heap.size ≤ (wr.setCell _ _).heap.size
      simp [World.setCell]; exact this))
theorem NI.start (w : World) (n L nL : Nat) : NI w (((w.alloc (.cells (madeCells #[.int .u64 0] nL) 53)).alloc (.cells (madeCells #[.slice none 0 0] n) 45)).alloc (.cells #[.slice (some ⟨w.heap.size + 1, 0, none⟩) n n] 48)) n L nL 0 := by
  have h1 : (((w.alloc (.cells (madeCells #[.int .u64 0] nL) 53)).alloc (.cells (madeCells #[.slice none 0 0] n) 45)).alloc (.cells #[.slice (some ⟨w.heap.size + 1, 0, none⟩) n n] 48)).heap[w.heap.size + 1]? = some (.cells (madeCells #[.slice none 0 0] n) 45) := by
    have := heap_new (w.alloc (.cells (madeCells #[.int .u64 0] nL) 53)) (.cells (madeCells #[.slice none 0 0] n) 45)
    rw [World.size_alloc] at this
    exact heap_below this (below_alloc _ _)
  refine ⟨heap_below (heap_below (heap_new _ _) (below_alloc _ _)) (below_alloc _ _), ?_, fun i hi => by omega, fun i _ hi => ?_, fun i => frozen_of h1 i, btr (btr (below_alloc _ _) (below_alloc _ _)) (below_alloc _ _)⟩
  · have := heap_new ((w.alloc (.cells (madeCells #[.int .u64 0] nL) 53)).alloc (.cells (madeCells #[.slice none 0 0] n) 45)) (.cells #[.slice (some ⟨w.heap.size + 1, 0, none⟩) n n] 48)
    rw [World.size_alloc, World.size_alloc] at this
    exact this
  · rw [cell_of h1]; exact made_at _ _ _ hi
theorem NI.done {w wr : World} {n L nL : Nat} (h : NI w wr n L nL n) (hn : n ≤ 1024) (hL : ln n = L) (hnL : n * L = nL) : MW wr (w.heap.size + 2) (w.heap.size + 1) w.heap.size n (fun _ => 0) := by
  subst hL hnL
  refine ⟨hn, h.hd, h.row, fun i j hi hj => ?_, fun k => frozen_of h.wo k, by omega, by omega, Bd.zero n, by have := heap_lt h.hd; omega, by have := heap_lt h.hd; omega⟩
  rw [cell_of h.wo, made_at _ _ _ (by
    have : (i + 1) * ln n ≤ n * ln n := Nat.mul_le_mul_right _ hi
    rw [Nat.succ_mul] at this; omega)]
  simp [wd]
set_option maxRecDepth 100000 in
set_option maxHeartbeats 1600000 in
theorem new_ok (n : Nat) (h : n ≤ 1024) (w : World) :
    Calls Try.prog 9 #[.int .i64 (n : Int)] w fun e w' => e = .returned (.tuple #[.pointer (some ⟨w.heap.size + 2, 0, none⟩), .int .i64 0]) ∧ MW w' (w.heap.size + 2) (w.heap.size + 1) w.heap.size n (fun _ => 0) ∧ Below w.heap.size w w' := by
  have a1 : decide ((n : Int) < 0) = false := by simp
  have a2 : decide ((1024 : Int) < (n : Int)) = false := by simp; omega
  obtain ⟨L, hL⟩ : ∃ L, ln n = L := ⟨_, rfl⟩
  have hl16 : L ≤ 16 := by rw [← hL]; exact ln_le h
  have hl0 : 0 < n → 0 < L := by rw [← hL]; unfold ln; omega
  have hq : ((n : Int) + 64 - 1) / 64 = (L : Int) := by rw [← hL]; unfold ln; omega
  obtain ⟨nL, hnL⟩ : ∃ nL, n * L = nL := ⟨_, rfl⟩
  have hm : (n : Int) * (L : Int) = (nL : Int) := by rw [← hnL]; exact (Int.natCast_mul n L).symm
  have hb : nL ≤ 16384 := by
    rw [← hnL]
    exact Nat.le_trans (Nat.mul_le_mul h hl16) (by decide)
  have mk1 := mk_u w nL (by omega)
  have mk2 := mk_l (w.alloc (.cells (madeCells #[.int .u64 0] nL) 53)) n (by omega)
  simp only [World.size_alloc] at mk2
  have HL := hide hL
  have HM := hide hnL
  have ST := hide (NI.start w n L nL)
  have HH := hide h
  have HL0 := hide hl0
  clear hL hnL hl0
  go_enter Try.func9, Try.ntmps9
  go_wp2_with fail
  simp only [hq]
  clear hq
  go_loopw [33] (fun i wr => ∃ k : Nat, k ≤ n ∧ i = .int .i64 (k : Int) ∧ NI w wr n L nL k) (fun i _ => n - (intOf i).toNat)
  case atStart => exact ⟨0, Nat.zero_le _, rfl, ST.out⟩
  case round =>
    obtain ⟨k, hk, rfl, ni⟩ := hrel
    have NIH := hide ni
    clear mk1 mk2 ST hm
    by_cases hlt : k < n
    · have hlt' : (k : Int) < (n : Int) := by omega
      have hL0 := HL0.out (by omega)
      have c0 : wr.cell? ⟨w.heap.size + 2, 0, none⟩ = some (.slice (some ⟨w.heap.size + 1, 0, none⟩) n n) := by rw [cell_of ni.hd]; rfl
      have c1 := ni.rest k (Nat.le_refl _) hlt
      have f1 := ni.fr k
      have SP := hide (ni.step hlt)
      clear ni
      obtain ⟨kL, hkL⟩ : ∃ kL, k * L = kL := ⟨_, rfl⟩
      have e1 : (k : Int) * (L : Int) = (kL : Int) := by rw [← hkL]; exact (Int.natCast_mul k L).symm
      have e2 : ((k : Int) + 1) * (L : Int) = ((kL + L : Nat) : Int) := by rw [← hkL, Int.add_mul, Int.one_mul, Int.natCast_add, Int.natCast_mul]
      have hle : kL + L ≤ nL := by
        rw [← hkL, ← HM.out, ← Nat.succ_mul]
        exact Nat.mul_le_mul_right _ hlt
      rw [hkL] at SP
      clear hkL
      obtain ⟨kM, hkM⟩ : ∃ kM, kL + L = kM := ⟨_, rfl⟩
      rw [hkM] at e2 hle
      have hsub : kM - kL = L := by omega
      have hlt2 : kL < kM := by omega
      have b1 : (kL : Int) ≤ (kM : Int) := by omega
      have b2 : (kM : Int) ≤ (nL : Int) := by omega
      clear hkM
      go_wp2_with fail
      go_region_held3 (fun w' => w'.cell? ⟨w.heap.size + 2, 0, none⟩ = some (.slice (some ⟨w.heap.size + 1, 0, none⟩) n n)) (go_keep) ((fail))
      go_wp2_with fail
      go_roundw
      case rel => exact ⟨k + 1, by omega, by go_num, SP.out⟩
      case measure => simp [intOf]; omega
    · have hlt' : ¬ ((k : Int) < (n : Int)) := by omega
      obtain rfl : k = n := by omega
      go_wp2_with fail
      go_ret2
      exact ⟨rfl, NIH.out.done HH.out HL.out HM.out, NIH.out.bl⟩
end Mx
end Go.Proofs.Ytdfjcmlafhannaa
