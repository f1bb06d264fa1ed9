/- Layer 25's reference, over this seat's program: from, Close. -/
import Derived.Test.YtdfjcmlafhannaaNb2
namespace Go.Proofs.Ytdfjcmlafhannaa
open Go.ChangeShapes Go.WideShapes Go.ChangeAt Go.RowKit
namespace Mx
open Ba (KB btr heap_lt cell_of frozen_of ret_bool ret_int bdrew bdrew1 heap_new below_alloc heap_below own_below)

/-- a row of n truths at block O -/
def OB (w : World) (O n : Nat) (o : Nat → Bool) : Prop := ∃ cur, w.heap[O]? = some (.cells cur 4) ∧ ∀ k, k < n → cur[k]? = some (.bool (o k))
theorem OB.cell {w : World} {O n : Nat} {o : Nat → Bool} (h : OB w O n o) {k : Nat} (hk : k < n) : w.cell? ⟨O, k, none⟩ = some (.bool (o k)) := by
  obtain ⟨cur, h1, h2⟩ := h
  exact (cell_of h1 k).trans (h2 k hk)
theorem OB.frz {w : World} {O n : Nat} {o : Nat → Bool} (h : OB w O n o) (k : Nat) : w.frozen? ⟨O, k, none⟩ = false := by
  obtain ⟨cur, h1, h2⟩ := h
  exact frozen_of h1 k
theorem OB.put {w : World} {O n : Nat} {o : Nat → Bool} (h : OB w O n o) {k : Nat} (hk : k < n) (z : Bool) {g : Nat → Bool} (hg : ∀ a, a < n → g a = if a = k then z else o a) : OB (w.setCell ⟨O, k, none⟩ (.bool z)) O n g := by
  obtain ⟨cur, h1, h2⟩ := h
  refine ⟨_, Ba.heap_setCell_same h1 _, fun y hy => ?_⟩
  rw [Array.getElem?_setIfInBounds, hg y hy]
  have hcs : k < cur.size := (Array.getElem?_eq_some_iff.1 (h2 k hk)).1
  by_cases e2 : k = y
  · subst e2; simp [hcs]
  · have e3 : ¬ (y = k) := fun q => e2 q.symm
    simp only [e2, if_false, e3]
    exact h2 y hy
theorem OB.congr {w : World} {O n : Nat} {o g : Nat → Bool} (h : OB w O n o) (hg : ∀ a, a < n → g a = o a) : OB w O n g := by
  obtain ⟨cur, h1, h2⟩ := h
  exact ⟨cur, h1, fun k hk => by rw [hg k hk]; exact h2 k hk⟩
/-- the first k are those of g, the others those of o -/
def mix (k : Nat) (g o : Nat → Bool) : Nat → Bool := fun a => if a < k then g a else o a
theorem mix_zero (g o : Nat → Bool) : mix 0 g o = o := by funext a; simp [mix]
theorem mix_at (k : Nat) (g o : Nat → Bool) : mix k g o k = o k := by simp [mix]
theorem mix_succ (k : Nat) (g o : Nat → Bool) (a : Nat) : mix (k + 1) g o a = if a = k then g k else mix k g o a := by
  unfold mix
  by_cases e : a = k
  · subst e; simp
  · rw [if_neg e]
    by_cases h : a < k
    · rw [if_pos h, if_pos (by omega)]
    · rw [if_neg h, if_neg (by omega)]
theorem mix_full (n : Nat) (g o : Nat → Bool) (a : Nat) (h : a < n) : g a = mix n g o a := by simp [mix, h]
set_option maxRecDepth 100000 in
set_option maxHeartbeats 3200000 in
theorem from_any {w : World} {base G n : Nat} {f : Nat → Nat → Bool} {v : Value} {bs : List Nat} (x : RX w base G n f v bs) (i : Nat) (hi : i < n) :
    Calls Try.prog 32 #[.pointer (some ⟨G, 0, none⟩), .int .i64 (i : Int)] w fun e w' => e = .returned (.slice (some ⟨w.heap.size, 0, none⟩) n n) ∧ OB w' w.heap.size n (rnds f n (f i) n) ∧ Below w.heap.size w w' := by
  have hle := x.le
  obtain ⟨oa, c, rfl⟩ := x.slice
  have c0 : w.cell? ⟨G, 0, none⟩ = some (.slice oa n c) := by rw [cell_of x.hd]; rfl
  have ROW : Hid (∀ (u : World), Below w.heap.size w u → u.cell? ⟨G, 0, none⟩ = some (.slice oa n c) ∧ ∀ j, j < n → ∃ g b, oa = some ⟨g, 0, none⟩ ∧ u.cell? ⟨g, j, none⟩ = some (.slice (some ⟨b, 0, none⟩) n n) ∧ ∀ k, k < n → u.cell? ⟨b, k, none⟩ = some (.bool (f j k))) := fun u b => by
    refine ⟨cellB c0 b, fun j hj => ?_⟩
    obtain ⟨g, bb, cur, h1, h2, -, -, -, h3⟩ := x.at hj
    exact ⟨g, bb, h1, cellB h2 b, fun k hk => cellB (h3 k hk) b⟩
  have mk := mk_b w n (by omega)
  have O0 : Hid (OB (w.alloc (.cells (madeCells #[.bool false] n) 4)) w.heap.size n (fun _ => false)) := ⟨_, heap_new _ _, fun k hk => made_at _ _ _ hk⟩
  have B0 := hide (below_alloc w (.cells (madeCells #[.bool false] n) 4))
  have y0 := (ROW.out _ B0.out).1
  clear x
  obtain ⟨N, hN⟩ : ∃ N, w.heap.size = N := ⟨_, rfl⟩
  rw [hN] at ROW mk O0 B0 ⊢
  have HN := hide hN
  clear hN
  generalize w.alloc (.cells (madeCells #[.bool false] n) 4) = WA at *
  go_enter Try.func32, Try.ntmps32
  go_wp2_with fail
  go_loopw [21] (fun s wr => ∃ k : Nat, k ≤ n ∧ s = .int .i64 (k : Int) ∧ OB wr N n (mix k (f i) (fun _ => false)) ∧ Below N w wr) (fun s _ => n - (intOf s).toNat)
  case atStart => exact ⟨0, Nat.zero_le _, rfl, by rw [mix_zero]; exact O0.out, B0.out⟩
  case round =>
    obtain ⟨k, hk, rfl, ob, bl⟩ := hrel
    have OBH := hide ob
    have BLH := hide bl
    by_cases hlt : k < n
    · have hlt' : (k : Int) < (n : Int) := by omega
      have hi' : (i : Int) < (n : Int) := by omega
      obtain ⟨z0, z1⟩ := ROW.out _ bl
      obtain ⟨g, b, rfl, z2, z3⟩ := z1 i hi
      have z4 := z3 k hlt
      have z5 := ob.cell hlt
      have z6 := ob.frz k
      have NX : Hid (OB (wr.setCell ⟨N, k, none⟩ (.bool (f i k))) N n (mix (k + 1) (f i) (fun _ => false))) := ob.put hlt _ (fun a _ => mix_succ _ _ _ _)
      have NB : Hid (Below N w (wr.setCell ⟨N, k, none⟩ (.bool (f i k)))) := bl.setCell (by simp) _
      generalize f i k = z at *
      clear ob bl z1 z3 mk c0 y0
      go_wp2_with fail
      go_roundw
      case rel => exact ⟨k + 1, by omega, by go_num, NX.out, NB.out⟩
      case measure => simp [intOf]; omega
    · have hlt' : ¬ ((k : Int) < (n : Int)) := by omega
      obtain rfl : n = k := by omega
      have z0 := (ROW.out _ bl).1
      have O1 : Hid (OB wr N n (rnds f n (f i) 0)) := ob.congr (fun a ha => mix_full n _ _ a ha)
      clear ob bl mk c0 y0 O0 B0 hk OBH
      go_wp2_with fail
      clear z0
      rename World => w9
      go_loopw [7] (fun s wr => ∃ m : Nat, m ≤ n ∧ s = .int .i64 (m : Int) ∧ OB wr N n (rnds f n (f i) m) ∧ Below N w wr) (fun s _ => n - (intOf s).toNat)
      case atStart => exact ⟨0, Nat.zero_le _, rfl, O1.out, BLH.out⟩
      case round =>
        obtain ⟨m, hm, rfl, ob, bl⟩ := hrel
        clear O1 BLH
        have OBH := hide ob
        have BLH := hide bl
        have z0 := (ROW.out _ bl).1
        by_cases hltm : m < n
        · have hltm' : (m : Int) < (n : Int) := by omega
          have NXT : Hid (rnds f n (f i) (m + 1) = rnd f (rnds f n (f i) m) n) := rfl
          clear ob bl
          generalize rnds f n (f i) m = q at *
          go_wp2_with fail
          clear z0
          rename World => w8
          go_loopw [52] (fun s wr => ∃ j : Nat, j ≤ n ∧ s = .int .i64 (j : Int) ∧ OB wr N n (rnd f q j) ∧ Below N w wr) (fun s _ => n - (intOf s).toNat)
          case atStart => exact ⟨0, Nat.zero_le _, rfl, OBH.out, BLH.out⟩
          case round =>
            obtain ⟨j, hj, rfl, ob, bl⟩ := hrel
            clear OBH BLH
            have OBH := hide ob
            have BLH := hide bl
            obtain ⟨z0, z1⟩ := ROW.out _ bl
            by_cases hltj : j < n
            · have hltj' : (j : Int) < (n : Int) := by omega
              have z5 := ob.cell hltj
              have SU : Hid (rnd f q (j + 1) = gos f (rnd f q j) j) := rfl
              clear ob bl
              generalize rnd f q j = p at *
              cases hp : p j
              · rw [hp] at z5
                have SU2 : Hid (rnd f q (j + 1) = p) := by
                  show _ = _
                  rw [SU.out]
                  funext a
                  simp [gos, hp]
                clear hp SU z1
                go_wp2_with fail
                go_roundw
                case rel => exact ⟨j + 1, by omega, by go_num, by rw [SU2.out]; exact OBH.out, BLH.out⟩
                case measure => simp [intOf]; omega
              · rw [hp] at z5
                have SU2 : Hid (∀ a, rnd f q (j + 1) a = (p a || f j a)) := by
                  intro a
                  rw [SU.out]
                  simp [gos, hp]
                clear hp SU z1
                go_wp2_with fail
                clear z0 z5
                rename World => w7
                go_loopw [65] (fun s wr => ∃ k : Nat, k ≤ n ∧ s = .int .i64 (k : Int) ∧ OB wr N n (mix k (rnd f q (j + 1)) p) ∧ Below N w wr) (fun s _ => n - (intOf s).toNat)
                case atStart => exact ⟨0, Nat.zero_le _, rfl, by rw [mix_zero]; exact OBH.out, BLH.out⟩
                case round =>
                  obtain ⟨k, hk, rfl, ob, bl⟩ := hrel
                  clear OBH BLH
                  have OBH := hide ob
                  have BLH := hide bl
                  by_cases hlt : k < n
                  · have hlt' : (k : Int) < (n : Int) := by omega
                    obtain ⟨z0, z1⟩ := ROW.out _ bl
                    obtain ⟨g, b, rfl, z2, z3⟩ := z1 j hltj
                    have z4 := z3 k hlt
                    have z5 := ob.cell hlt
                    rw [mix_at] at z5
                    have z6 := ob.frz k
                    have NX : Hid (OB (wr.setCell ⟨N, k, none⟩ (.bool (p k || f j k))) N n (mix (k + 1) (rnd f q (j + 1)) p)) := ob.put hlt _ (fun a _ => by rw [mix_succ, SU2.out k])
                    have NB : Hid (Below N w (wr.setCell ⟨N, k, none⟩ (.bool (p k || f j k)))) := bl.setCell (by simp) _
                    clear ob bl z1 z3
                    generalize f j k = z at *
                    cases hp : p k
                    · rw [hp] at z5 NX NB
                      rw [Bool.false_or] at NX NB
                      clear hp
                      go_wp2_with fail
                      go_roundw
                      case rel => exact ⟨k + 1, by omega, by go_num, NX.out, NB.out⟩
                      case measure => simp [intOf]; omega
                    · rw [hp] at z5 NX NB
                      rw [Bool.true_or] at NX NB
                      clear hp
                      go_wp2_with fail
                      go_roundw
                      case rel => exact ⟨k + 1, by omega, by go_num, NX.out, NB.out⟩
                      case measure => simp [intOf]; omega
                  · have hlt' : ¬ ((k : Int) < (n : Int)) := by omega
                    obtain rfl : n = k := by omega
                    have O1 : Hid (OB wr N n (rnd f q (j + 1))) := ob.congr (fun a ha => mix_full n _ _ a ha)
                    clear ob bl
                    go_wp2_with fail
                    go_roundw
                    case rel => exact ⟨j + 1, by omega, by go_num, O1.out, BLH.out⟩
                    case measure => simp [intOf]; omega
            · have hltj' : ¬ ((j : Int) < (n : Int)) := by omega
              obtain rfl : n = j := by omega
              clear ob bl z1
              go_wp2_with fail
              go_roundw
              case rel => exact ⟨m + 1, by omega, by go_num, by rw [NXT.out]; exact OBH.out, BLH.out⟩
              case measure => simp [intOf]; omega
        · have hltm' : ¬ ((m : Int) < (n : Int)) := by omega
          obtain rfl : n = m := by omega
          clear ob bl
          go_wp2_with fail
          go_ret
          exact ⟨rfl, OBH.out, BLH.out⟩
end Mx
end Go.Proofs.Ytdfjcmlafhannaa
