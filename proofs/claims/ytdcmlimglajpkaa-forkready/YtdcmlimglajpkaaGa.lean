/- Package ring: New, place, Len, Cap, At, Push, Pop, Turn, over this seat's program. -/
import Derived.Test.YtdcmlimglajpkaaBk
import Derived.Deep.RegionWith
namespace Go.Proofs.Ytdcmlimglajpkaa
open Go.ChangeShapes Go.WideShapes Go.ChangeAt Go.RowKit
namespace Rn
open Ba

/-- the ring's cells lie in block R -/
def Cl (w : World) (R : Nat) (v : Nat → Int) (f n s : Nat) : Prop :=
  w.heap[R]? = some (.cells #[.int .i64 (v 0), .int .i64 (v 1), .int .i64 (v 2), .int .i64 (v 3), .int .i64 (f : Int), .int .i64 (n : Int), .int .i64 (s : Int)] 113 (0, 0))
/-- a ring of capacity s that holds l lies in block R -/
def Rg (w : World) (R s : Nat) (l : List Int) : Prop :=
  ∃ (v : Nat → Int) (f : Nat), f < 4 ∧ l.length ≤ s ∧ s ≤ 4 ∧ (∀ i, i < l.length → v ((f + i) % 4) = nth l i) ∧ Cl w R v f l.length s
theorem Cl.cell {w : World} {R : Nat} {v : Nat → Int} {f n s : Nat} (h : Cl w R v f n s) (k : Nat) (hk : k < 4) : w.cell? ⟨R, k, none⟩ = some (.int .i64 (v k)) := by
  rw [cell_of h k]
  match k, hk with
  | 0, _ => rfl
  | 1, _ => rfl
  | 2, _ => rfl
  | 3, _ => rfl
theorem Cl.fst {w : World} {R : Nat} {v : Nat → Int} {f n s : Nat} (h : Cl w R v f n s) : w.cell? ⟨R, 4, none⟩ = some (.int .i64 (f : Int)) := cell_of h 4
theorem Cl.cnt {w : World} {R : Nat} {v : Nat → Int} {f n s : Nat} (h : Cl w R v f n s) : w.cell? ⟨R, 5, none⟩ = some (.int .i64 (n : Int)) := cell_of h 5
theorem Cl.siz {w : World} {R : Nat} {v : Nat → Int} {f n s : Nat} (h : Cl w R v f n s) : w.cell? ⟨R, 6, none⟩ = some (.int .i64 (s : Int)) := cell_of h 6
def up (v : Nat → Int) (k : Nat) (x : Int) : Nat → Int := fun j => if j = k then x else v j
theorem up_same (v : Nat → Int) (k : Nat) (x : Int) : up v k x k = x := by simp [up]
theorem up_other (v : Nat → Int) (k : Nat) (x : Int) (j : Nat) (h : j ≠ k) : up v k x j = v j := by simp [up, h]
theorem Cl.val {w : World} {R : Nat} {v : Nat → Int} {f n s : Nat} (h : Cl w R v f n s) (k : Nat) (hk : k < 4) (x : Int) : Cl (w.setCell ⟨R, k, none⟩ (.int .i64 x)) R (up v k x) f n s := by
  unfold Cl
  rw [Ba.heap_setCell_same h]
  match k, hk with
  | 0, _ => rfl
  | 1, _ => rfl
  | 2, _ => rfl
  | 3, _ => rfl
theorem Cl.setFst {w : World} {R : Nat} {v : Nat → Int} {f n s : Nat} (h : Cl w R v f n s) (g : Nat) : Cl (w.setCell ⟨R, 4, none⟩ (.int .i64 (g : Int))) R v g n s := by
  unfold Cl
  rw [Ba.heap_setCell_same h]
  rfl
theorem Cl.setCnt {w : World} {R : Nat} {v : Nat → Int} {f n s : Nat} (h : Cl w R v f n s) (g : Nat) (x : Int) (hx : x = (g : Int)) : Cl (w.setCell ⟨R, 5, none⟩ (.int .i64 x)) R v f g s := by
  subst hx
  unfold Cl
  rw [Ba.heap_setCell_same h]
  rfl
theorem Rg.kb {w w' : World} {R s : Nat} {l : List Int} {Q : Nat} (h : Rg w R s l) (k : KB Q w w') (hR : R ≠ Q) : Rg w' R s l := by
  obtain ⟨v, f, h1, h2, h3, h4, h5⟩ := h
  exact ⟨v, f, h1, h2, h3, h4, k.heap h5 hR⟩
theorem Rg.below {w w' : World} {R s : Nat} {l : List Int} (h : Rg w R s l) (hb : Below w.heap.size w w') : Rg w' R s l := by
  obtain ⟨v, f, h1, h2, h3, h4, h5⟩ := h
  exact ⟨v, f, h1, h2, h3, h4, heap_below h5 hb⟩
theorem Rg.lt {w : World} {R s : Nat} {l : List Int} (h : Rg w R s l) : R < w.heap.size := by
  obtain ⟨v, f, h1, h2, h3, h4, h5⟩ := h
  exact heap_lt h5

theorem new_err (s : Int) (w : World) (h : s < 0 ∨ 4 < s) :
    Calls Try.prog 43 #[.int .i64 s] w fun r w' => r = .returned (.tuple #[.pointer none, .int .i64 1]) ∧ w' = w := by
  by_cases h1 : s < 0
  · have d1 : decide (s < 0) = true := decide_eq_true (by omega)
    go_enter Try.func43, Try.ntmps43
    go_wp2_with fail
    go_ret2
    exact ⟨rfl, rfl⟩
  · have d1 : decide (s < 0) = false := decide_eq_false (by omega)
    have d2 : decide (4 < s) = true := decide_eq_true (by omega)
    go_enter Try.func43, Try.ntmps43
    go_wp2_with fail
    go_ret2
    exact ⟨rfl, rfl⟩
theorem new_ok (s : Nat) (w : World) (h : s ≤ 4) :
    Calls Try.prog 43 #[.int .i64 (s : Int)] w fun r w' => r = .returned (.tuple #[.pointer (some ⟨w.heap.size, 0, none⟩), .int .i64 0]) ∧ Rg w' w.heap.size s [] ∧ Below w.heap.size w w' := by
  have d1 : decide ((s : Int) < 0) = false := decide_eq_false (by omega)
  have d2 : decide (4 < (s : Int)) = false := decide_eq_false (by omega)
  go_enter Try.func43, Try.ntmps43
  go_wp2_with fail
  go_ret2
  exact ⟨rfl, ⟨fun _ => 0, 0, by decide, Nat.zero_le _, h, fun i hi => absurd hi (Nat.not_lt_zero _), heap_new _ _⟩, below_alloc _ _⟩

theorem place_any (R f i : Nat) (w : World) (hc : w.cell? ⟨R, 4, none⟩ = some (.int .i64 (f : Int))) (hf : f < 4) (hi : i ≤ 4) :
    Calls Try.prog 65 #[.pointer (some ⟨R, 0, none⟩), .int .i64 (i : Int)] w fun r w' => r = .returned (.int .i64 (((f + i) % 4 : Nat) : Int)) ∧ w' = w := by
  have h4 : (((f : Int) + (i : Int)).tmod 4) = (((f + i) % 4 : Nat) : Int) := by rw [Int.tmod_eq_emod_of_nonneg (by omega)]; omega
  generalize hq : (f + i) % 4 = q at h4 ⊢
  go_enter Try.func65, Try.ntmps65
  go_wp2_with fail
  go_ret
  exact ⟨ret_int (by first | exact h4 | omega), rfl⟩

theorem len_nil (w : World) :
    Calls Try.prog 57 #[.pointer none] w fun r w' => r = .returned (.int .i64 0) ∧ w' = w := by
  go_enter Try.func57, Try.ntmps57
  go_wp2_with fail
  go_ret
  exact ⟨rfl, rfl⟩
theorem cap_nil (w : World) :
    Calls Try.prog 64 #[.pointer none] w fun r w' => r = .returned (.int .i64 0) ∧ w' = w := by
  go_enter Try.func64, Try.ntmps64
  go_wp2_with fail
  go_ret
  exact ⟨rfl, rfl⟩
theorem len_c (R : Nat) (n : Int) (w : World) (h : w.cell? ⟨R, 5, none⟩ = some (.int .i64 n)) :
    Calls Try.prog 57 #[.pointer (some ⟨R, 0, none⟩)] w fun r w' => r = .returned (.int .i64 n) ∧ w' = w := by
  go_enter Try.func57, Try.ntmps57
  go_wp2_with fail
  go_ret
  exact ⟨rfl, rfl⟩
theorem cap_c (R : Nat) (n : Int) (w : World) (h : w.cell? ⟨R, 6, none⟩ = some (.int .i64 n)) :
    Calls Try.prog 64 #[.pointer (some ⟨R, 0, none⟩)] w fun r w' => r = .returned (.int .i64 n) ∧ w' = w := by
  go_enter Try.func64, Try.ntmps64
  go_wp2_with fail
  go_ret
  exact ⟨rfl, rfl⟩
theorem len_any (R s : Nat) (l : List Int) (w : World) (h : Rg w R s l) :
    Calls Try.prog 57 #[.pointer (some ⟨R, 0, none⟩)] w fun r w' => r = .returned (.int .i64 (l.length : Int)) ∧ w' = w := by
  obtain ⟨v, f, h1, h2, h3, h4, h5⟩ := h
  exact len_c R _ w h5.cnt
theorem cap_any (R s : Nat) (l : List Int) (w : World) (h : Rg w R s l) :
    Calls Try.prog 64 #[.pointer (some ⟨R, 0, none⟩)] w fun r w' => r = .returned (.int .i64 (s : Int)) ∧ w' = w := by
  obtain ⟨v, f, h1, h2, h3, h4, h5⟩ := h
  exact cap_c R _ w h5.siz
end Rn
end Go.Proofs.Ytdcmlimglajpkaa
