import Derived.Test.YtipimagajnocjaaZjFork1
import Derived.Deep.RegionWith
import Derived.Maps.AppendAt
import Derived.Lib.AppendZeros
/- Package pew: Add, Take of whatever pew, over this seat's program. -/
namespace Go.Proofs.Ytipimagajnocjaa
open Go.ChangeShapes Go.WideShapes Go.ChangeAt Go.RowKit
namespace Pe
open Ba

def okb (x : Wt) : Bool := decide (0 ≤ x.g) && decide (-1 ≤ x.c)
theorem okb_iff (x : Wt) : okb x = true ↔ 0 ≤ x.g ∧ -1 ≤ x.c := by simp [okb]
theorem okb_not (x : Wt) : okb x = false ↔ x.g < 0 ∨ x.c < -1 := by
  rw [← Bool.not_eq_true, okb_iff]
  omega
/-- what Add answers, and then is there -/
def ae (l : List Wt) (x : Wt) : Int := if okb x = true then (if l.length = 1024 then 5 else 0) else 1
def al (l : List Wt) (x : Wt) : List Wt := if okb x = true then (if l.length = 1024 then l else l ++ [x]) else l
theorem add_any (P : Nat) (F : Nat → Prop) (l : List Wt) (x : Wt) (w : World) (hP : PF w P F l) :
    Calls Try.prog 49 #[.pointer (some ⟨P, 0, none⟩), wv x] w fun r w' => r = .returned (.int .i64 (ae l x)) ∧ KF F w w' ∧ ∃ F', Nw F' F w ∧ PF w' P F' (al l x) := by
  unfold ae al
  cases h : okb x
  · simp only [Bool.false_eq_true, if_false]
    refine (add_arg _ x w ((okb_not x).1 h)).mono ?_
    rintro r w1 ⟨rfl, b1⟩
    exact ⟨rfl, KF.of b1, F, Nw.refl _ _, hP.below b1⟩
  · simp only [if_true]
    by_cases hl : l.length = 1024
    · simp only [if_pos hl]
      refine (add_full P l x w ((okb_iff x).1 h) hP.pw hl).mono ?_
      rintro r w1 ⟨rfl, b1⟩
      exact ⟨rfl, KF.of b1, F, Nw.refl _ _, hP.below b1⟩
    · simp only [if_neg hl]
      exact add_ok P F l x w ((okb_iff x).1 h) hP (by have := hP.le; omega)
theorem take_any (P : Nat) (F : Nat → Prop) (l : List Wt) (w : World) (h : PF w P F l) :
    Calls Try.prog 45 #[.pointer (some ⟨P, 0, none⟩)] w fun r w' => r = .returned (.tuple #[wv (fw l), .bool (fo l)]) ∧ KF F w w' ∧ PF w' P F l.tail := by
  cases l with
  | nil =>
    refine (take_none P w h.pw).mono ?_
    rintro r w1 ⟨rfl, b1⟩
    exact ⟨rfl, KF.of b1, h.below b1⟩
  | cons x l => exact take_some P F x l w h
theorem dr_take {g : Int} {l : List Wt} {k : Nat} {x : Wt} (h : l[k]? = some x) : dr g (l.take (k + 1)) = if (x.g == g) = true then dr g (l.take k) else dr g (l.take k) ++ [x] := by
  unfold dr
  rw [List.take_add_one, h, List.filter_append]
  cases hg : x.g == g <;> simp [hg]
end Pe
end Go.Proofs.Ytipimagajnocjaa
/- Package ring: New, place, Len, Cap, At, Push, Pop, Turn, over this seat's program. -/
namespace Go.Proofs.Ytipimagajnocjaa
open Go.ChangeShapes Go.WideShapes Go.ChangeAt Go.RowKit
namespace Rn
open Ba

/-- the ring's cells lie in block R -/
def Cl (w : World) (R : Nat) (v : Nat → Int) (f n s : Nat) : Prop :=
  w.heap[R]? = some (.cells #[.int .i64 (v 0), .int .i64 (v 1), .int .i64 (v 2), .int .i64 (v 3), .int .i64 (f : Int), .int .i64 (n : Int), .int .i64 (s : Int)] 113 (0, 0))
/-- a ring of capacity s that holds l lies in block R -/
def Rg (w : World) (R s : Nat) (l : List Int) : Prop :=
  ∃ (v : Nat → Int) (f : Nat), f < 4 ∧ l.length ≤ s ∧ s ≤ 4 ∧ (∀ i, i < l.length → v ((f + i) % 4) = nth l i) ∧ Cl w R v f l.length s
theorem Cl.cell {w : World} {R : Nat} {v : Nat → Int} {f n s : Nat} (h : Cl w R v f n s) (k : Nat) (hk : k < 4) : w.cell? ⟨R, k, none⟩ = some (.int .i64 (v k)) := by
  rw [cell_of h k]
  match k, hk with
  | 0, _ => rfl
  | 1, _ => rfl
  | 2, _ => rfl
  | 3, _ => rfl
theorem Cl.fst {w : World} {R : Nat} {v : Nat → Int} {f n s : Nat} (h : Cl w R v f n s) : w.cell? ⟨R, 4, none⟩ = some (.int .i64 (f : Int)) := cell_of h 4
theorem Cl.cnt {w : World} {R : Nat} {v : Nat → Int} {f n s : Nat} (h : Cl w R v f n s) : w.cell? ⟨R, 5, none⟩ = some (.int .i64 (n : Int)) := cell_of h 5
theorem Cl.siz {w : World} {R : Nat} {v : Nat → Int} {f n s : Nat} (h : Cl w R v f n s) : w.cell? ⟨R, 6, none⟩ = some (.int .i64 (s : Int)) := cell_of h 6
def up (v : Nat → Int) (k : Nat) (x : Int) : Nat → Int := fun j => if j = k then x else v j
theorem up_same (v : Nat → Int) (k : Nat) (x : Int) : up v k x k = x := by simp [up]
theorem up_other (v : Nat → Int) (k : Nat) (x : Int) (j : Nat) (h : j ≠ k) : up v k x j = v j := by simp [up, h]
theorem Cl.val {w : World} {R : Nat} {v : Nat → Int} {f n s : Nat} (h : Cl w R v f n s) (k : Nat) (hk : k < 4) (x : Int) : Cl (w.setCell ⟨R, k, none⟩ (.int .i64 x)) R (up v k x) f n s := by
  unfold Cl
  rw [Ba.heap_setCell_same h]
  match k, hk with
  | 0, _ => rfl
  | 1, _ => rfl
  | 2, _ => rfl
  | 3, _ => rfl
theorem Cl.setFst {w : World} {R : Nat} {v : Nat → Int} {f n s : Nat} (h : Cl w R v f n s) (g : Nat) : Cl (w.setCell ⟨R, 4, none⟩ (.int .i64 (g : Int))) R v g n s := by
  unfold Cl
  rw [Ba.heap_setCell_same h]
  rfl
theorem Cl.setCnt {w : World} {R : Nat} {v : Nat → Int} {f n s : Nat} (h : Cl w R v f n s) (g : Nat) (x : Int) (hx : x = (g : Int)) : Cl (w.setCell ⟨R, 5, none⟩ (.int .i64 x)) R v f g s := by
  subst hx
  unfold Cl
  rw [Ba.heap_setCell_same h]
  rfl
theorem Rg.kb {w w' : World} {R s : Nat} {l : List Int} {Q : Nat} (h : Rg w R s l) (k : KB Q w w') (hR : R ≠ Q) : Rg w' R s l := by
  obtain ⟨v, f, h1, h2, h3, h4, h5⟩ := h
  exact ⟨v, f, h1, h2, h3, h4, k.heap h5 hR⟩
theorem Rg.below {w w' : World} {R s : Nat} {l : List Int} (h : Rg w R s l) (hb : Below w.heap.size w w') : Rg w' R s l := by
  obtain ⟨v, f, h1, h2, h3, h4, h5⟩ := h
  exact ⟨v, f, h1, h2, h3, h4, heap_below h5 hb⟩
theorem Rg.lt {w : World} {R s : Nat} {l : List Int} (h : Rg w R s l) : R < w.heap.size := by
  obtain ⟨v, f, h1, h2, h3, h4, h5⟩ := h
  exact heap_lt h5

theorem new_err (s : Int) (w : World) (h : s < 0 ∨ 4 < s) :
    Calls Try.prog 43 #[.int .i64 s] w fun r w' => r = .returned (.tuple #[.pointer none, .int .i64 1]) ∧ w' = w := by
  by_cases h1 : s < 0
  · have d1 : decide (s < 0) = true := decide_eq_true (by omega)
    go_enter Try.func43, Try.ntmps43
    go_wp2_with fail
    go_ret2
    exact ⟨rfl, rfl⟩
  · have d1 : decide (s < 0) = false := decide_eq_false (by omega)
    have d2 : decide (4 < s) = true := decide_eq_true (by omega)
    go_enter Try.func43, Try.ntmps43
    go_wp2_with fail
    go_ret2
    exact ⟨rfl, rfl⟩
theorem new_ok (s : Nat) (w : World) (h : s ≤ 4) :
    Calls Try.prog 43 #[.int .i64 (s : Int)] w fun r w' => r = .returned (.tuple #[.pointer (some ⟨w.heap.size, 0, none⟩), .int .i64 0]) ∧ Rg w' w.heap.size s [] ∧ Below w.heap.size w w' := by
  have d1 : decide ((s : Int) < 0) = false := decide_eq_false (by omega)
  have d2 : decide (4 < (s : Int)) = false := decide_eq_false (by omega)
  go_enter Try.func43, Try.ntmps43
  go_wp2_with fail
  go_ret2
  exact ⟨rfl, ⟨fun _ => 0, 0, by decide, Nat.zero_le _, h, fun i hi => absurd hi (Nat.not_lt_zero _), heap_new _ _⟩, below_alloc _ _⟩

theorem place_any (R f i : Nat) (w : World) (hc : w.cell? ⟨R, 4, none⟩ = some (.int .i64 (f : Int))) (hf : f < 4) (hi : i ≤ 4) :
    Calls Try.prog 65 #[.pointer (some ⟨R, 0, none⟩), .int .i64 (i : Int)] w fun r w' => r = .returned (.int .i64 (((f + i) % 4 : Nat) : Int)) ∧ w' = w := by
  have h4 : (((f : Int) + (i : Int)).tmod 4) = (((f + i) % 4 : Nat) : Int) := by rw [Int.tmod_eq_emod_of_nonneg (by omega)]; omega
  generalize hq : (f + i) % 4 = q at h4 ⊢
  go_enter Try.func65, Try.ntmps65
  go_wp2_with fail
  go_ret
  exact ⟨ret_int (by first | exact h4 | omega), rfl⟩

theorem len_nil (w : World) :
    Calls Try.prog 57 #[.pointer none] w fun r w' => r = .returned (.int .i64 0) ∧ w' = w := by
  go_enter Try.func57, Try.ntmps57
  go_wp2_with fail
  go_ret
  exact ⟨rfl, rfl⟩
theorem cap_nil (w : World) :
    Calls Try.prog 64 #[.pointer none] w fun r w' => r = .returned (.int .i64 0) ∧ w' = w := by
  go_enter Try.func64, Try.ntmps64
  go_wp2_with fail
  go_ret
  exact ⟨rfl, rfl⟩
theorem len_c (R : Nat) (n : Int) (w : World) (h : w.cell? ⟨R, 5, none⟩ = some (.int .i64 n)) :
    Calls Try.prog 57 #[.pointer (some ⟨R, 0, none⟩)] w fun r w' => r = .returned (.int .i64 n) ∧ w' = w := by
  go_enter Try.func57, Try.ntmps57
  go_wp2_with fail
  go_ret
  exact ⟨rfl, rfl⟩
theorem cap_c (R : Nat) (n : Int) (w : World) (h : w.cell? ⟨R, 6, none⟩ = some (.int .i64 n)) :
    Calls Try.prog 64 #[.pointer (some ⟨R, 0, none⟩)] w fun r w' => r = .returned (.int .i64 n) ∧ w' = w := by
  go_enter Try.func64, Try.ntmps64
  go_wp2_with fail
  go_ret
  exact ⟨rfl, rfl⟩
theorem len_any (R s : Nat) (l : List Int) (w : World) (h : Rg w R s l) :
    Calls Try.prog 57 #[.pointer (some ⟨R, 0, none⟩)] w fun r w' => r = .returned (.int .i64 (l.length : Int)) ∧ w' = w := by
  obtain ⟨v, f, h1, h2, h3, h4, h5⟩ := h
  exact len_c R _ w h5.cnt
theorem cap_any (R s : Nat) (l : List Int) (w : World) (h : Rg w R s l) :
    Calls Try.prog 64 #[.pointer (some ⟨R, 0, none⟩)] w fun r w' => r = .returned (.int .i64 (s : Int)) ∧ w' = w := by
  obtain ⟨v, f, h1, h2, h3, h4, h5⟩ := h
  exact cap_c R _ w h5.siz
end Rn
end Go.Proofs.Ytipimagajnocjaa
/- Package ring: At, Push, Pop, Turn, over this seat's program. -/
namespace Go.Proofs.Ytipimagajnocjaa
open Go.ChangeShapes Go.WideShapes Go.ChangeAt Go.RowKit
namespace Rn
open Ba

theorem at_nil (i : Int) (w : World) :
    Calls Try.prog 73 #[.pointer none, .int .i64 i] w fun r w' => r = .returned (.tuple #[.int .i64 0, .int .i64 6]) ∧ w' = w := by
  cases h1 : decide (i < 0)
  · have d2 : decide (0 ≤ i) = true := by simp at h1 ⊢; omega
    go_enter Try.func73, Try.ntmps73
    go_wp2_with fail
    refine (len_nil _).mono ?_
    rintro r w1 ⟨rfl, rfl⟩
    go_wp2_with fail
    go_ret2
    exact ⟨rfl, rfl⟩
  · go_enter Try.func73, Try.ntmps73
    go_wp2_with fail
    go_ret2
    exact ⟨rfl, rfl⟩
theorem at_out (R s : Nat) (l : List Int) (i : Int) (w : World) (h : Rg w R s l) (hi : i < 0 ∨ (l.length : Int) ≤ i) :
    Calls Try.prog 73 #[.pointer (some ⟨R, 0, none⟩), .int .i64 i] w fun r w' => r = .returned (.tuple #[.int .i64 0, .int .i64 6]) ∧ w' = w := by
  cases h1 : decide (i < 0)
  · have d2 : decide ((l.length : Int) ≤ i) = true := by simp at h1 ⊢; omega
    have H := hide h
    clear h hi
    go_enter Try.func73, Try.ntmps73
    go_wp2_with fail
    refine (len_any R s l _ H.out).mono ?_
    rintro r w1 ⟨rfl, rfl⟩
    go_wp2_with fail
    go_ret2
    exact ⟨rfl, rfl⟩
  · clear hi
    go_enter Try.func73, Try.ntmps73
    go_wp2_with fail
    go_ret2
    exact ⟨rfl, rfl⟩
set_option maxHeartbeats 1600000 in
theorem at_in (R s : Nat) (l : List Int) (i : Nat) (w : World) (h : Rg w R s l) (hi : i < l.length) :
    Calls Try.prog 73 #[.pointer (some ⟨R, 0, none⟩), .int .i64 (i : Int)] w fun r w' => r = .returned (.tuple #[.int .i64 (nth l i), .int .i64 0]) ∧ Below w.heap.size w w' := by
  have d1 : decide ((i : Int) < 0) = false := decide_eq_false (by omega)
  have d2 : decide ((l.length : Int) ≤ (i : Int)) = false := decide_eq_false (by omega)
  have H := hide h
  obtain ⟨v, f, h1, h2, h3, h4, h5⟩ := h
  have PL := hide fun n => place_any R f i (w.drewN n) h5.fst h1 (by omega)
  have hq : (f + i) % 4 < 4 := Nat.mod_lt _ (by decide)
  have hc := h5.cell _ hq
  have HV := hide (h4 i hi)
  clear h4 h5
  generalize (f + i) % 4 = q at *
  rw [← HV.out]
  go_enter Try.func73, Try.ntmps73
  go_wp2_with fail
  refine (len_any R s l _ H.out).mono ?_
  rintro r w1 ⟨rfl, rfl⟩
  go_wp2_with fail
  go_quiet ((go_at_call 65; exact Calls.quiet_of_same (PL.out _)))
  go_wp2_with fail
  go_ret2
  exact ⟨rfl, bdrew _ _⟩

theorem push_nil (x : Int) (w : World) :
    Calls Try.prog 46 #[.pointer none, .int .i64 x] w fun r w' => r = .returned (.int .i64 5) ∧ w' = w := by
  go_enter Try.func46, Try.ntmps46
  go_wp2_with fail
  refine (len_nil _).mono ?_
  rintro r w1 ⟨rfl, rfl⟩
  go_wp2_with fail
  refine (cap_nil _).mono ?_
  rintro r w1 ⟨rfl, rfl⟩
  go_wp2_with fail
  go_ret
  exact ⟨rfl, rfl⟩
theorem push_full (R s : Nat) (l : List Int) (x : Int) (w : World) (h : Rg w R s l) (hl : l.length = s) :
    Calls Try.prog 46 #[.pointer (some ⟨R, 0, none⟩), .int .i64 x] w fun r w' => r = .returned (.int .i64 5) ∧ w' = w := by
  have H := hide h
  have d1 : (((l.length : Nat) : Int) == (s : Int)) = true := by rw [beq_iff_eq]; omega
  clear h hl
  go_enter Try.func46, Try.ntmps46
  go_wp2_with fail
  refine (len_any R s l _ H.out).mono ?_
  rintro r w1 ⟨rfl, rfl⟩
  go_wp2_with fail
  refine (cap_any R s l _ H.out).mono ?_
  rintro r w1 ⟨rfl, rfl⟩
  go_wp2_with fail
  go_ret
  exact ⟨rfl, rfl⟩
theorem Rg.pushed {w1 : World} {R s f : Nat} {v : Nat → Int} {l : List Int} (x : Int) (hf : f < 4) (hl : l.length < s) (hs : s ≤ 4) (hv : ∀ i, i < l.length → v ((f + i) % 4) = nth l i) (h : Cl w1 R (up v ((f + l.length) % 4) x) f (l.length + 1) s) : Rg w1 R s (l ++ [x]) := by
  refine ⟨_, f, hf, by simp; omega, hs, ?_, by simpa using h⟩
  intro i hi
  simp at hi
  by_cases e : i = l.length
  · subst e
    rw [up_same]
    simp [nth]
  · rw [up_other _ _ _ _ (by omega), hv i (by omega)]
    rw [nth_lt l i (by omega), nth_lt _ i (by simp; omega)]
    rw [List.getElem_append_left]
set_option maxHeartbeats 1600000 in
theorem push_ok (R s : Nat) (l : List Int) (x : Int) (w : World) (h : Rg w R s l) (hl : l.length < s) :
    Calls Try.prog 46 #[.pointer (some ⟨R, 0, none⟩), .int .i64 x] w fun r w' => r = .returned (.int .i64 0) ∧ Rg w' R s (l ++ [x]) ∧ KB R w w' := by
  have H := hide h
  obtain ⟨v, f, h1, h2, h3, h4, h5⟩ := h
  have HV := hide h4
  have HC := hide h5
  have hn := h5.cnt
  have hq : (f + l.length) % 4 < 4 := Nat.mod_lt _ (by decide)
  have hcq := h5.cell _ hq
  have hfr := frozen_of h5 ((f + l.length) % 4)
  have hf5 := frozen_of h5 5
  have PL := hide (place_any R f l.length w.drew h5.fst h1 (by omega))
  have d1 : (((l.length : Nat) : Int) == (s : Int)) = false := by rw [beq_eq_false_iff_ne]; omega
  have RS := hide fun (w1 : World) (hc : Cl w1 R (up v ((f + l.length) % 4) x) f (l.length + 1) s) => Rg.pushed x h1 hl h3 h4 hc
  clear h4 h5
  generalize (f + l.length) % 4 = q at *
  go_enter Try.func46, Try.ntmps46
  go_wp2_with fail
  refine (len_any R s l _ H.out).mono ?_
  rintro r w1 ⟨rfl, rfl⟩
  go_wp2_with fail
  refine (cap_any R s l _ H.out).mono ?_
  rintro r w1 ⟨rfl, rfl⟩
  go_wp2_with fail
  go_region_with (go_at_call 65; refine PL.out.mono ?_; rintro r w2 ⟨rfl, rfl⟩)
  all_goals
    go_wp2_with fail
    go_ret
    exact ⟨rfl, RS.out _ ((HC.out.val q hq x).setCnt (l.length + 1) _ (by omega)), (((KB.refl R _).setCell q _).setCell 5 _).trans (KB.of (bdrew1 _))⟩

theorem Rg.popped {w1 : World} {R s f : Nat} {v : Nat → Int} {x : Int} {l : List Int} (hl : l.length + 1 ≤ s) (hs : s ≤ 4) (hv : ∀ i, i < l.length + 1 → v ((f + i) % 4) = nth (x :: l) i) (h : Cl w1 R (up v f 0) ((f + 1) % 4) l.length s) : Rg w1 R s l := by
  refine ⟨_, _, Nat.mod_lt _ (by decide), by omega, hs, ?_, h⟩
  intro i hi
  rw [up_other _ _ _ _ (by omega)]
  have := hv (i + 1) (by omega)
  rw [show ((f + 1) % 4 + i) % 4 = (f + (i + 1)) % 4 by omega, this]
  rfl
theorem pop_nil (w : World) :
    Calls Try.prog 71 #[.pointer none] w fun r w' => r = .returned (.tuple #[.int .i64 0, .int .i64 6]) ∧ w' = w := by
  go_enter Try.func71, Try.ntmps71
  go_wp2_with fail
  refine (at_nil 0 _).mono ?_
  rintro r w1 ⟨rfl, rfl⟩
  go_wp2_with fail
  go_ret2
  exact ⟨rfl, rfl⟩
theorem pop_none (R s : Nat) (w : World) (h : Rg w R s []) :
    Calls Try.prog 71 #[.pointer (some ⟨R, 0, none⟩)] w fun r w' => r = .returned (.tuple #[.int .i64 0, .int .i64 6]) ∧ w' = w := by
  have H := hide h
  clear h
  go_enter Try.func71, Try.ntmps71
  go_wp2_with fail
  refine (at_out R s [] 0 _ H.out (.inr (by simp))).mono ?_
  rintro r w1 ⟨rfl, rfl⟩
  go_wp2_with fail
  go_ret2
  exact ⟨rfl, rfl⟩
set_option maxHeartbeats 1600000 in
theorem pop_some (R s : Nat) (x : Int) (l : List Int) (w : World) (h : Rg w R s (x :: l)) :
    Calls Try.prog 71 #[.pointer (some ⟨R, 0, none⟩)] w fun r w' => r = .returned (.tuple #[.int .i64 x, .int .i64 0]) ∧ Rg w' R s l ∧ KB R w w' := by
  have AT := hide (at_in R s (x :: l) 0 w h (by simp))
  obtain ⟨v, f, h1, h2, h3, h4, h5⟩ := h
  have hl : l.length + 1 ≤ s := by simpa using h2
  have HC : Hid (Cl w R v f (l.length + 1) s) := by rw [List.length_cons] at h5; exact h5
  have RS := hide fun (w1 : World) (hc : Cl w1 R (up v f 0) ((f + 1) % 4) l.length s) => Rg.popped (x := x) hl h3 (by simpa using h4) hc
  clear h4 h5 h2
  go_enter Try.func71, Try.ntmps71
  go_wp2_with fail
  refine AT.out.mono ?_
  rintro r w1 ⟨rfl, b1⟩
  have B1 := hide b1
  have C1 : Hid (Cl w1 R v f (l.length + 1) s) := heap_below HC.out b1
  have y4 := C1.out.fst
  have y5 := C1.out.cnt
  have yf := C1.out.cell f h1
  have z4 := frozen_of C1.out 4
  have z5 := frozen_of C1.out 5
  have zf := frozen_of C1.out f
  have PL := hide fun (u : World) (hu : u.cell? ⟨R, 4, none⟩ = some (.int .i64 (f : Int))) => place_any R f 1 u hu h1 (by decide)
  clear b1
  generalize (f + 1) % 4 = q at *
  simp only [show nth (x :: l) 0 = x from rfl]
  go_wp2_with fail
  go_region
  all_goals
    go_wp2_with fail
    refine (PL.out _ (by have := (C1.out.val f h1 0).fst; simpa using this)).mono ?_
    rintro r w2 ⟨rfl, rfl⟩
    go_wp2_with fail
    go_ret2
    exact ⟨rfl, RS.out _ (((C1.out.val f h1 0).setFst q).setCnt l.length _ (by omega)), ((((KB.of B1.out).setCell f _).setCell 4 _).setCell 5 _).trans (KB.of (bdrew1 _))⟩

/-- what a ring of capacity s answers, and then holds -/
def pe (s : Nat) (l : List Int) : Int := if l.length < s then 0 else 5
def pl (s : Nat) (l : List Int) (x : Int) : List Int := if l.length < s then l ++ [x] else l
def oe (l : List Int) : Int := if l.length = 0 then 6 else 0
def tl (l : List Int) (x : Int) : List Int := if l.length = 0 then l else l.tail ++ [x]
theorem Rg.le {w : World} {R s : Nat} {l : List Int} (h : Rg w R s l) : l.length ≤ s := by
  obtain ⟨v, f, h1, h2, h3, h4, h5⟩ := h
  exact h2
theorem Rg.le4 {w : World} {R s : Nat} {l : List Int} (h : Rg w R s l) : s ≤ 4 := by
  obtain ⟨v, f, h1, h2, h3, h4, h5⟩ := h
  exact h3
theorem push_any (R s : Nat) (l : List Int) (x : Int) (w : World) (h : Rg w R s l) :
    Calls Try.prog 46 #[.pointer (some ⟨R, 0, none⟩), .int .i64 x] w fun r w' => r = .returned (.int .i64 (pe s l)) ∧ Rg w' R s (pl s l x) ∧ KB R w w' := by
  unfold pe pl
  by_cases hl : l.length < s
  · simp only [if_pos hl]
    exact push_ok R s l x w h hl
  · simp only [if_neg hl]
    refine (push_full R s l x w h (by have := h.le; omega)).mono ?_
    rintro r w1 ⟨rfl, rfl⟩
    exact ⟨rfl, h, KB.refl _ _⟩
theorem pop_any (R s : Nat) (l : List Int) (w : World) (h : Rg w R s l) :
    Calls Try.prog 71 #[.pointer (some ⟨R, 0, none⟩)] w fun r w' => r = .returned (.tuple #[.int .i64 (nth l 0), .int .i64 (oe l)]) ∧ Rg w' R s l.tail ∧ KB R w w' := by
  cases l with
  | nil =>
    refine (pop_none R s w h).mono ?_
    rintro r w1 ⟨rfl, rfl⟩
    exact ⟨rfl, h, KB.refl _ _⟩
  | cons x l =>
    refine (pop_some R s x l w h).mono ?_
    rintro r w1 ⟨rfl, h1, h2⟩
    exact ⟨rfl, h1, h2⟩
def atv (l : List Int) (i : Int) : Int := if i < 0 ∨ (l.length : Int) ≤ i then 0 else nth l i.toNat
def ate (l : List Int) (i : Int) : Int := if i < 0 ∨ (l.length : Int) ≤ i then 6 else 0
theorem at_any (R s : Nat) (l : List Int) (i : Int) (w : World) (h : Rg w R s l) :
    Calls Try.prog 73 #[.pointer (some ⟨R, 0, none⟩), .int .i64 i] w fun r w' => r = .returned (.tuple #[.int .i64 (atv l i), .int .i64 (ate l i)]) ∧ Below w.heap.size w w' := by
  unfold atv ate
  by_cases hi : i < 0 ∨ (l.length : Int) ≤ i
  · simp only [if_pos hi]
    refine (at_out R s l i w h hi).mono ?_
    rintro r w1 ⟨rfl, rfl⟩
    exact ⟨rfl, Below.refl _ _⟩
  · simp only [if_neg hi]
    obtain ⟨n, rfl⟩ := Int.eq_ofNat_of_zero_le (show 0 ≤ i by omega)
    exact at_in R s l n w h (by omega)
theorem turn_nil (x : Int) (w : World) :
    Calls Try.prog 72 #[.pointer none, .int .i64 x] w fun r w' => r = .returned (.tuple #[.int .i64 0, .int .i64 6]) ∧ w' = w := by
  go_enter Try.func72, Try.ntmps72
  go_wp2_with fail
  refine (pop_nil _).mono ?_
  rintro r w1 ⟨rfl, rfl⟩
  go_wp2_with fail
  go_ret2
  exact ⟨rfl, rfl⟩
theorem turn_any (R s : Nat) (l : List Int) (x : Int) (w : World) (h : Rg w R s l) :
    Calls Try.prog 72 #[.pointer (some ⟨R, 0, none⟩), .int .i64 x] w fun r w' => r = .returned (.tuple #[.int .i64 (nth l 0), .int .i64 (oe l)]) ∧ Rg w' R s (tl l x) ∧ KB R w w' := by
  cases l with
  | nil =>
    have H := hide h
    clear h
    go_enter Try.func72, Try.ntmps72
    go_wp2_with fail
    refine (pop_none R s _ H.out).mono ?_
    rintro r w1 ⟨rfl, rfl⟩
    go_wp2_with fail
    go_ret2
    exact ⟨rfl, H.out, KB.refl _ _⟩
  | cons y l =>
    have hle := h.le
    rw [List.length_cons] at hle
    have H := hide h
    clear h
    go_enter Try.func72, Try.ntmps72
    go_wp2_with fail
    refine (pop_some R s y l _ H.out).mono ?_
    rintro r w1 ⟨rfl, g1, k1⟩
    have G1 := hide g1
    have K1 := hide k1
    clear g1 k1
    go_wp2_with fail
    refine (push_ok R s l x _ G1.out (by omega)).mono ?_
    rintro r w2 ⟨rfl, g2, k2⟩
    have G2 := hide g2
    have K2 := hide k2
    clear g2 k2
    go_wp2_with fail
    go_ret2
    exact ⟨rfl, G2.out, K1.out.trans K2.out⟩
end Rn
end Go.Proofs.Ytipimagajnocjaa
/- Package pipe: a channel in memory, and what its calls answer. -/
namespace Go.Proofs.Ytipimagajnocjaa
open Go.ChangeShapes Go.WideShapes Go.ChangeAt Go.RowKit
namespace Pi
open Ba Pe

/-- a channel: its capacity, its values, who waits, its counts, whether it is closed -/
structure St where
  size : Nat
  buf : List Int
  snd : List Wt
  rcv : List Wt
  sent : Nat
  got : Nat
  closed : Bool
def Hp (w : World) (B R S Q : Nat) (sent got : Nat) (cl : Bool) : Prop :=
  w.heap[B]? = some (.cells #[.pointer (some ⟨R, 0, none⟩), .pointer (some ⟨S, 0, none⟩), .pointer (some ⟨Q, 0, none⟩), .int .i64 (sent : Int), .int .i64 (got : Int), .bool cl] 97 (0, 0))
/-- the channel in block B: its ring in R, its pews in S and Q, all inside F -/
structure PO (w : World) (B : Nat) (F : Nat → Prop) (R S Q : Nat) (FS FQ : Nat → Prop) (st : St) : Prop where
  hp : Hp w B R S Q st.sent st.got st.closed
  rg : Rn.Rg w R st.size st.buf
  ps : PF w S FS st.snd
  pq : PF w Q FQ st.rcv
  fb : F B
  fr : F R
  fs : ∀ k, FS k → F k
  fq : ∀ k, FQ k → F k
  nsb : ¬ FS B
  nsr : ¬ FS R
  nqb : ¬ FQ B
  nqr : ¬ FQ R
  sq : ∀ k, FS k → ¬ FQ k
  bd : Bd F w
def Pp (w : World) (B : Nat) (F : Nat → Prop) (st : St) : Prop := ∃ R S Q FS FQ, PO w B F R S Q FS FQ st
theorem PO.pp {w : World} {B : Nat} {F : Nat → Prop} {R S Q : Nat} {FS FQ : Nat → Prop} {st : St} (h : PO w B F R S Q FS FQ st) : Pp w B F st := ⟨R, S, Q, FS, FQ, h⟩
theorem Pp.bd {w : World} {B : Nat} {F : Nat → Prop} {st : St} (h : Pp w B F st) : Bd F w := by
  obtain ⟨R, S, Q, FS, FQ, h⟩ := h
  exact h.bd
theorem Pp.own {w : World} {B : Nat} {F : Nat → Prop} {st : St} (h : Pp w B F st) : F B := by
  obtain ⟨R, S, Q, FS, FQ, h⟩ := h
  exact h.fb
theorem Pp.lt {w : World} {B : Nat} {F : Nat → Prop} {st : St} (h : Pp w B F st) : B < w.heap.size := h.bd B h.own
theorem Rg.sm {w w' : World} {R s : Nat} {l : List Int} (h : Rn.Rg w R s l) (e : w'.heap[R]? = w.heap[R]?) : Rn.Rg w' R s l := by
  obtain ⟨v, f, h1, h2, h3, h4, h5⟩ := h
  exact ⟨v, f, h1, h2, h3, h4, e.trans h5⟩
theorem PO.sm {w w' : World} {B : Nat} {F : Nat → Prop} {R S Q : Nat} {FS FQ : Nat → Prop} {st : St} (h : PO w B F R S Q FS FQ st) (s : Sm F w w') : PO w' B F R S Q FS FQ st :=
  ⟨s.heap h.fb h.hp, Rg.sm h.rg (s R h.fr), h.ps.sm (s.sub h.fs), h.pq.sm (s.sub h.fq), h.fb, h.fr, h.fs, h.fq, h.nsb, h.nsr, h.nqb, h.nqr, h.sq, h.bd.sm s⟩
theorem PO.below {w w' : World} {B : Nat} {F : Nat → Prop} {R S Q : Nat} {FS FQ : Nat → Prop} {st : St} (h : PO w B F R S Q FS FQ st) (hb : Below w.heap.size w w') : PO w' B F R S Q FS FQ st := h.sm (Sm.below hb h.bd)
theorem PO.other {w : World} {B : Nat} {F : Nat → Prop} {R S Q : Nat} {FS FQ : Nat → Prop} {st : St} (h : PO w B F R S Q FS FQ st) {z : Nat} (hz : ¬ F z) (i : Nat) (v : Value) : PO (w.setCell ⟨z, i, none⟩ v) B F R S Q FS FQ st :=
  h.sm fun x hx => Below.heap_setCell _ _ _ _ (fun e => hz (by have e' : x = z := e; rw [← e']; exact hx))
theorem Pp.sm {w w' : World} {B : Nat} {F : Nat → Prop} {st : St} (h : Pp w B F st) (s : Sm F w w') : Pp w' B F st := by
  obtain ⟨R, S, Q, FS, FQ, h⟩ := h
  exact (h.sm s).pp
theorem Pp.below {w w' : World} {B : Nat} {F : Nat → Prop} {st : St} (h : Pp w B F st) (hb : Below w.heap.size w w') : Pp w' B F st := h.sm (Sm.below hb h.bd)
theorem Pp.kf {w w' : World} {B : Nat} {F G : Nat → Prop} {st : St} (h : Pp w B F st) (k : KF G w w') (hd : ∀ x, F x → ¬ G x) : Pp w' B F st := h.sm (Sm.kf k h.bd hd)
theorem PO.rb {w : World} {B : Nat} {F : Nat → Prop} {R S Q : Nat} {FS FQ : Nat → Prop} {st : St} (h : PO w B F R S Q FS FQ st) : B ≠ R := by
  intro e
  obtain ⟨v, f, h1, h2, h3, h4, h5⟩ := h.rg
  have := h.hp
  unfold Hp at this
  rw [e, h5] at this
  cases this
theorem PO.rcv {w w' : World} {B : Nat} {F : Nat → Prop} {R S Q : Nat} {FS FQ FQ' : Nat → Prop} {st : St} (h : PO w B F R S Q FS FQ st) (k : KF FQ w w') (i : Nw FQ' FQ w) {l : List Wt} (p : PF w' Q FQ' l) : PO w' B (fun x => F x ∨ FQ' x) R S Q FS FQ' { st with rcv := l } ∧ KF F w w' ∧ Nw (fun x => F x ∨ FQ' x) F w := by
  refine ⟨⟨k.heap h.hp h.nqb, Rg.sm h.rg (k.block R (h.bd R h.fr) h.nqr), h.ps.kf k h.sq, p, .inl h.fb, .inl h.fr, fun x hx => .inl (h.fs x hx), fun x hx => .inr hx, h.nsb, h.nsr, i.apart (G := fun x => x = B) (fun x e => by have e' : x = B := e; rw [e']; exact h.bd B h.fb) (fun x e => by have e' : x = B := e; rw [e']; exact h.nqb) B rfl, i.apart (G := fun x => x = R) (fun x e => by have e' : x = R := e; rw [e']; exact h.bd R h.fr) (fun x e => by have e' : x = R := e; rw [e']; exact h.nqr) R rfl, i.apart (h.ps.bd) h.sq, fun x hx => ?_⟩, k.mono h.fq, fun x hx => ?_⟩
  · rcases hx with q | q
    · exact h.bd.mono k.size x q
    · exact p.bd x q
  · rcases hx with q | q
    · exact .inl q
    · exact (i x q).imp (h.fq x) id
theorem PO.snd {w w' : World} {B : Nat} {F : Nat → Prop} {R S Q : Nat} {FS FQ FS' : Nat → Prop} {st : St} (h : PO w B F R S Q FS FQ st) (k : KF FS w w') (i : Nw FS' FS w) {l : List Wt} (p : PF w' S FS' l) : PO w' B (fun x => F x ∨ FS' x) R S Q FS' FQ { st with snd := l } ∧ KF F w w' ∧ Nw (fun x => F x ∨ FS' x) F w := by
  refine ⟨⟨k.heap h.hp h.nsb, Rg.sm h.rg (k.block R (h.bd R h.fr) h.nsr), p, h.pq.kf k (fun x hx hs => h.sq x hs hx), .inl h.fb, .inl h.fr, fun x hx => .inr hx, fun x hx => .inl (h.fq x hx), i.apart (G := fun x => x = B) (fun x e => by have e' : x = B := e; rw [e']; exact h.bd B h.fb) (fun x e => by have e' : x = B := e; rw [e']; exact h.nsb) B rfl, i.apart (G := fun x => x = R) (fun x e => by have e' : x = R := e; rw [e']; exact h.bd R h.fr) (fun x e => by have e' : x = R := e; rw [e']; exact h.nsr) R rfl, h.nqb, h.nqr, fun x hx hq => i.apart h.pq.bd (fun y hy hs => h.sq y hs hy) x hq hx, fun x hx => ?_⟩, k.mono h.fs, fun x hx => ?_⟩
  · rcases hx with q | q
    · exact h.bd.mono k.size x q
    · exact p.bd x q
  · rcases hx with q | q
    · exact .inl q
    · exact (i x q).imp (h.fs x) id
theorem PO.ring {w w' : World} {B : Nat} {F : Nat → Prop} {R S Q : Nat} {FS FQ : Nat → Prop} {st : St} (h : PO w B F R S Q FS FQ st) (k : KB R w w') {l : List Int} (p : Rn.Rg w' R st.size l) : PO w' B F R S Q FS FQ { st with buf := l } :=
  ⟨k.heap h.hp h.rb, p, h.ps.sm (fun x hx => k.block x (h.ps.bd x hx) (fun e => h.nsr (e ▸ hx))), h.pq.sm (fun x hx => k.block x (h.pq.bd x hx) (fun e => h.nqr (e ▸ hx))), h.fb, h.fr, h.fs, h.fq, h.nsb, h.nsr, h.nqb, h.nqr, h.sq, h.bd.mono k.size⟩
theorem PO.field {w : World} {B : Nat} {F : Nat → Prop} {R S Q : Nat} {FS FQ : Nat → Prop} {st st' : St} (h : PO w B F R S Q FS FQ st) (i : Nat) (v : Value) (hh : Hp (w.setCell ⟨B, i, none⟩ v) B R S Q st'.sent st'.got st'.closed) (e1 : st'.size = st.size) (e2 : st'.buf = st.buf) (e3 : st'.snd = st.snd) (e4 : st'.rcv = st.rcv) : PO (w.setCell ⟨B, i, none⟩ v) B F R S Q FS FQ st' := by
  have K := (KB.refl B w).setCell i v
  refine ⟨hh, ?_, ?_, ?_, h.fb, h.fr, h.fs, h.fq, h.nsb, h.nsr, h.nqb, h.nqr, h.sq, h.bd.mono K.size⟩
  · rw [e1, e2]
    exact Rg.sm h.rg (K.block R (h.bd R h.fr) (Ne.symm h.rb))
  · rw [e3]
    exact h.ps.sm (fun x hx => K.block x (h.ps.bd x hx) (fun e => h.nsb (e ▸ hx)))
  · rw [e4]
    exact h.pq.sm (fun x hx => K.block x (h.pq.bd x hx) (fun e => h.nqb (e ▸ hx)))
theorem PO.setSent {w : World} {B : Nat} {F : Nat → Prop} {R S Q : Nat} {FS FQ : Nat → Prop} {st : St} (h : PO w B F R S Q FS FQ st) (n : Nat) (x : Int) (hx : x = (n : Int)) : PO (w.setCell ⟨B, 3, none⟩ (.int .i64 x)) B F R S Q FS FQ { st with sent := n } := by
  subst hx
  exact h.field 3 _ ((Ba.heap_setCell_same h.hp _).trans rfl) rfl rfl rfl rfl
theorem PO.setGot {w : World} {B : Nat} {F : Nat → Prop} {R S Q : Nat} {FS FQ : Nat → Prop} {st : St} (h : PO w B F R S Q FS FQ st) (n : Nat) (x : Int) (hx : x = (n : Int)) : PO (w.setCell ⟨B, 4, none⟩ (.int .i64 x)) B F R S Q FS FQ { st with got := n } := by
  subst hx
  exact h.field 4 _ ((Ba.heap_setCell_same h.hp _).trans rfl) rfl rfl rfl rfl
theorem PO.setClosed {w : World} {B : Nat} {F : Nat → Prop} {R S Q : Nat} {FS FQ : Nat → Prop} {st : St} (h : PO w B F R S Q FS FQ st) (b : Bool) : PO (w.setCell ⟨B, 5, none⟩ (.bool b)) B F R S Q FS FQ { st with closed := b } :=
  h.field 5 _ ((Ba.heap_setCell_same h.hp _).trans rfl) rfl rfl rfl rfl

/-- what a try tells -/
structure Gt where
  rd : Bool
  ok : Bool
  wk : Bool
  v : Int
  m : Wt
def gv (g : Gt) : Value := .agg #[.bool g.rd, .bool g.ok, .bool g.wk, .int .i64 g.v, .int .i64 g.m.g, .int .i64 g.m.c, .int .i64 g.m.v]
def gz : Gt := ⟨false, false, false, 0, ⟨0, 0, 0⟩⟩
/-- Send: what it tells, its error, and then the channel -/
def sendG (st : St) : Gt :=
  if st.closed then gz else match st.rcv with
  | y :: _ => ⟨true, false, true, 0, y⟩
  | [] => if st.buf.length < st.size then ⟨true, false, false, 0, ⟨0, 0, 0⟩⟩ else gz
def sendE (st : St) : Int := if st.closed then 90 else 0
def sendS (st : St) (x : Int) : St :=
  if st.closed then st else match st.rcv with
  | _ :: t => { st with rcv := t, sent := st.sent + 1, got := st.got + 1 }
  | [] => if st.buf.length < st.size then { st with buf := st.buf ++ [x], sent := st.sent + 1 } else st
def recvG (st : St) : Gt :=
  match st.buf, st.snd with
  | [], [] => ⟨st.closed, false, false, 0, ⟨0, 0, 0⟩⟩
  | [], y :: _ => ⟨true, true, true, y.v, y⟩
  | x :: _, [] => ⟨true, true, false, x, ⟨0, 0, 0⟩⟩
  | x :: _, y :: _ => ⟨true, true, true, x, y⟩
def recvS (st : St) : St :=
  match st.buf, st.snd with
  | [], [] => st
  | [], _ :: t => { st with snd := t, sent := st.sent + 1, got := st.got + 1 }
  | _ :: b, [] => { st with buf := b, got := st.got + 1 }
  | _ :: b, y :: t => { st with buf := b ++ [y.v], snd := t, sent := st.sent + 1, got := st.got + 1 }
/-- is there room, or a value? -/
def room (st : St) (send : Bool) : Bool := if send then decide (st.buf.length < st.size) else decide (0 < st.buf.length)
/-- who waits so, and the other way -/
def own (st : St) (send : Bool) : List Wt := if send then st.snd else st.rcv
def rdy (st : St) (send : Bool) : Bool := st.closed || room st send || decide (0 < (own st (!send)).length)
def rdyBut (st : St) (send : Bool) (g : Int) : Bool := st.closed || room st send || decide (0 < (dr g (own st (!send))).length)
def waitE (st : St) (send : Bool) (x : Wt) : Int := if rdyBut st send x.g = true then 7 else ae (own st send) x
def waitS (st : St) (send : Bool) (x : Wt) : St :=
  if rdyBut st send x.g = true then st else if send then { st with snd := al st.snd x } else { st with rcv := al st.rcv x }
def closeE (st : St) : Int := if st.closed then 90 else 0
def closeS (st : St) : St := if st.closed then st else { st with snd := [], rcv := [], closed := true }
def closeL (st : St) (send : Bool) : List Wt := if st.closed then [] else own st send
def dropS (st : St) (g : Int) : St := { st with snd := dr g st.snd, rcv := dr g st.rcv }
def dropN (st : St) (g : Int) : Int := ((st.snd.length : Int) - ((dr g st.snd).length : Int)) + ((st.rcv.length : Int) - ((dr g st.rcv).length : Int))
end Pi
end Go.Proofs.Ytipimagajnocjaa
/- The reference's channel in memory, over this seat's program. -/
namespace Go.Proofs.Ytipimagajnocjaa
open Go.ChangeShapes Go.WideShapes Go.ChangeAt Go.RowKit
namespace Rp
open Ba Pe _root_.Go.Proofs.Ytipimagajnocjaa.Pi

/-- the cells of numbers -/
def ic (l : List Int) : List Value := l.map (Value.int .i64)
theorem ic_len (l : List Int) : (ic l).length = l.length := by simp [ic]
theorem ic_app (l m : List Int) : ic (l ++ m) = ic l ++ ic m := by simp [ic]
theorem ic_one (l : List Int) : ∀ u ∈ ic l, u.oneCell' = true := by
  intro u hu
  obtain ⟨z, _, rfl⟩ := List.mem_map.1 hu
  rfl
theorem own_keep {w w' : World} {base : Nat} {e : TypeId} {size : Nat} {v : Value} {n : Nat} {xs : List Value} (h : w.ownsRow base e size v n xs) (hk : ∀ g, v.ownBlock = some g → w'.heap[g]? = w.heap[g]?) : w'.ownsRow base e size v n xs := by
  refine ⟨h.1, ?_⟩
  rcases h.2 with q | ⟨g, cap, cur, q1, q2, q3, q4⟩
  · exact .inl q
  · exact .inr ⟨g, cap, cur, q1, q2, (hk g (by rw [q1]; rfl)).trans q3, q4⟩
theorem own_base {w : World} {base base' : Nat} {e : TypeId} {size : Nat} {v : Value} {n : Nat} {xs : List Value} (h : w.ownsRow base e size v n xs) (hb : base' ≤ base) : w.ownsRow base' e size v n xs := by
  refine ⟨h.1, ?_⟩
  rcases h.2 with q | ⟨g, cap, cur, q1, q2, q3, q4⟩
  · exact .inl q
  · exact .inr ⟨g, cap, cur, q1, by omega, q3, q4⟩
theorem own_blk {w : World} {base : Nat} {e : TypeId} {size : Nat} {v : Value} {n : Nat} {xs : List Value} (h : w.ownsRow base e size v n xs) (g : Nat) (hg : v.ownBlock = some g) : base ≤ g ∧ ∃ cur, w.heap[g]? = some (.cells cur e (0, 0)) := by
  rcases h.2 with ⟨rfl, _⟩ | ⟨g', cap, cur, rfl, q2, q3, q4⟩
  · simp [Value.ownBlock] at hg
  · simp [Value.ownBlock] at hg
    subst hg
    exact ⟨q2, cur, q3⟩
theorem own_ne {w : World} {b1 b2 : Nat} {e1 e2 : TypeId} {s1 s2 : Nat} {v1 v2 : Value} {n1 n2 : Nat} {x1 x2 : List Value} (h1 : w.ownsRow b1 e1 s1 v1 n1 x1) (h2 : w.ownsRow b2 e2 s2 v2 n2 x2) (he : e1 ≠ e2) (g : Nat) (hg : v1.ownBlock = some g) : v2.ownBlock ≠ some g := by
  intro hg2
  obtain ⟨_, c1, q1⟩ := own_blk h1 g hg
  obtain ⟨_, c2, q2⟩ := own_blk h2 g hg2
  rw [q1] at q2
  cases q2
  exact he rfl
theorem own_at {w : World} {base : Nat} {v : Value} {l : List Int} (h : w.ownsRow base 3 1 v l.length (ic l)) : ∃ oa c, v = .slice oa l.length c ∧ At w oa l ∧ l.length ≤ c := by
  rcases h.2 with ⟨rfl, h0⟩ | ⟨g, cap, cur, rfl, _, hg, hc, _, hcs, htk⟩
  · refine ⟨none, 0, by rw [h0], ?_, by omega⟩
    obtain rfl := List.eq_nil_of_length_eq_zero h0
    exact At.nil _ _
  · refine ⟨_, cap, rfl, ?_, hc⟩
    intro k hk
    refine ⟨g, 0, rfl, ?_⟩
    have q : (ic l)[k]? = some (.int .i64 (nth l k)) := by simp [ic, nth, hk]
    rw [← htk, List.getElem?_take_of_lt (by omega)] at q
    rw [Nat.zero_add, cell_of hg]
    simpa using q
def Gp (w : World) (G : Nat) (size : Nat) (vL vS vQ : Value) (cl : Bool) (sent got : Nat) : Prop :=
  w.heap[G]? = some (.cells #[.int .i64 (size : Int), vL, vS, vQ, .bool cl, .int .i64 (sent : Int), .int .i64 (got : Int)] 82 (0, 0))
/-- the reference's channel in block G, its rows, all inside F -/
structure RO (w : World) (G : Nat) (F : Nat → Prop) (vL vS vQ : Value) (st : St) : Prop where
  hp : Gp w G st.size vL vS vQ st.closed st.sent st.got
  rl : w.ownsRow 0 3 1 vL st.buf.length (ic st.buf)
  rs : w.ownsRow 0 62 3 vS st.snd.length (wc st.snd)
  rq : w.ownsRow 0 62 3 vQ st.rcv.length (wc st.rcv)
  ap : ∀ g, vS.ownBlock = some g → vQ.ownBlock ≠ some g
  fg : F G
  fl : ∀ g, vL.ownBlock = some g → F g
  fs : ∀ g, vS.ownBlock = some g → F g
  fq : ∀ g, vQ.ownBlock = some g → F g
  bd : Bd F w
  les : st.snd.length ≤ 1024
  leq : st.rcv.length ≤ 1024
  bl : st.buf.length ≤ st.size
  sz : st.size ≤ 4
def Rr (w : World) (G : Nat) (F : Nat → Prop) (st : St) : Prop := ∃ vL vS vQ, RO w G F vL vS vQ st
theorem RO.rr {w : World} {G : Nat} {F : Nat → Prop} {vL vS vQ : Value} {st : St} (h : RO w G F vL vS vQ st) : Rr w G F st := ⟨vL, vS, vQ, h⟩
theorem Rr.bd {w : World} {G : Nat} {F : Nat → Prop} {st : St} (h : Rr w G F st) : Bd F w := by
  obtain ⟨vL, vS, vQ, h⟩ := h
  exact h.bd
theorem Rr.own {w : World} {G : Nat} {F : Nat → Prop} {st : St} (h : Rr w G F st) : F G := by
  obtain ⟨vL, vS, vQ, h⟩ := h
  exact h.fg
theorem Rr.lt {w : World} {G : Nat} {F : Nat → Prop} {st : St} (h : Rr w G F st) : G < w.heap.size := h.bd G h.own
theorem RO.sm {w w' : World} {G : Nat} {F : Nat → Prop} {vL vS vQ : Value} {st : St} (h : RO w G F vL vS vQ st) (s : Sm F w w') : RO w' G F vL vS vQ st :=
  ⟨s.heap h.fg h.hp, own_keep h.rl fun g e => s g (h.fl g e), own_keep h.rs fun g e => s g (h.fs g e), own_keep h.rq fun g e => s g (h.fq g e), h.ap, h.fg, h.fl, h.fs, h.fq, h.bd.sm s, h.les, h.leq, h.bl, h.sz⟩
theorem RO.below {w w' : World} {G : Nat} {F : Nat → Prop} {vL vS vQ : Value} {st : St} (h : RO w G F vL vS vQ st) (hb : Below w.heap.size w w') : RO w' G F vL vS vQ st := h.sm (Sm.below hb h.bd)
theorem Rr.sm {w w' : World} {G : Nat} {F : Nat → Prop} {st : St} (h : Rr w G F st) (s : Sm F w w') : Rr w' G F st := by
  obtain ⟨vL, vS, vQ, h⟩ := h
  exact (h.sm s).rr
theorem Rr.below {w w' : World} {G : Nat} {F : Nat → Prop} {st : St} (h : Rr w G F st) (hb : Below w.heap.size w w') : Rr w' G F st := h.sm (Sm.below hb h.bd)
theorem Rr.kf {w w' : World} {G : Nat} {F K : Nat → Prop} {st : St} (h : Rr w G F st) (k : KF K w w') (hd : ∀ x, F x → ¬ K x) : Rr w' G F st := h.sm (Sm.kf k h.bd hd)
/-- a cell of G is laid anew; the rows are there already -/
theorem RO.put {w : World} {G : Nat} {F : Nat → Prop} {cs : Array Value} {i : Nat} {v vL vS vQ : Value} {st : St} (hG : w.heap[G]? = some (.cells cs 82 (0, 0)))
    (hc : cs.setIfInBounds i v = #[.int .i64 (st.size : Int), vL, vS, vQ, .bool st.closed, .int .i64 (st.sent : Int), .int .i64 (st.got : Int)])
    (rl : w.ownsRow 0 3 1 vL st.buf.length (ic st.buf)) (rs : w.ownsRow 0 62 3 vS st.snd.length (wc st.snd)) (rq : w.ownsRow 0 62 3 vQ st.rcv.length (wc st.rcv))
    (ap : ∀ g, vS.ownBlock = some g → vQ.ownBlock ≠ some g) (fg : F G) (fl : ∀ g, vL.ownBlock = some g → F g) (fs : ∀ g, vS.ownBlock = some g → F g) (fq : ∀ g, vQ.ownBlock = some g → F g) (bd : Bd F w)
    (les : st.snd.length ≤ 1024) (leq : st.rcv.length ≤ 1024) (bl : st.buf.length ≤ st.size) (sz : st.size ≤ 4) : RO (w.setCell ⟨G, i, none⟩ v) G F vL vS vQ st := by
  have K := (KB.refl G w).setCell i v
  have ne : ∀ {e : TypeId} {s : Nat} {u : Value} {n : Nat} {xs : List Value}, w.ownsRow 0 e s u n xs → 82 ≠ e → ∀ g, u.ownBlock = some g → g ≠ G := by
    intro e s u n xs h he g hg e2
    subst e2
    exact own_ty h hG he hg.symm
  have kp : ∀ {e : TypeId} {s : Nat} {u : Value} {n : Nat} {xs : List Value}, w.ownsRow 0 e s u n xs → 82 ≠ e → (w.setCell ⟨G, i, none⟩ v).ownsRow 0 e s u n xs := by
    intro e s u n xs h he
    refine own_keep h fun g hg => ?_
    obtain ⟨_, cur, q⟩ := own_blk h g hg
    exact K.block g (heap_lt q) (ne h he g hg)
  exact ⟨(Ba.heap_setCell_same hG v).trans (by rw [hc]), kp rl (by decide), kp rs (by decide), kp rq (by decide), ap, fg, fl, fs, fq, bd.mono K.size, les, leq, bl, sz⟩
theorem RO.setSent {w : World} {G : Nat} {F : Nat → Prop} {vL vS vQ : Value} {st : St} (h : RO w G F vL vS vQ st) (n : Nat) (x : Int) (hx : x = (n : Int)) : RO (w.setCell ⟨G, 5, none⟩ (.int .i64 x)) G F vL vS vQ { st with sent := n } := by
  subst hx
  exact RO.put h.hp rfl h.rl h.rs h.rq h.ap h.fg h.fl h.fs h.fq h.bd h.les h.leq h.bl h.sz
theorem RO.setGot {w : World} {G : Nat} {F : Nat → Prop} {vL vS vQ : Value} {st : St} (h : RO w G F vL vS vQ st) (n : Nat) (x : Int) (hx : x = (n : Int)) : RO (w.setCell ⟨G, 6, none⟩ (.int .i64 x)) G F vL vS vQ { st with got := n } := by
  subst hx
  exact RO.put h.hp rfl h.rl h.rs h.rq h.ap h.fg h.fl h.fs h.fq h.bd h.les h.leq h.bl h.sz
theorem RO.setClosed {w : World} {G : Nat} {F : Nat → Prop} {vL vS vQ : Value} {st : St} (h : RO w G F vL vS vQ st) (b : Bool) : RO (w.setCell ⟨G, 4, none⟩ (.bool b)) G F vL vS vQ { st with closed := b } :=
  RO.put h.hp rfl h.rl h.rs h.rq h.ap h.fg h.fl h.fs h.fq h.bd h.les h.leq h.bl h.sz
/-- F, and a row's block -/
def Fw (F : Nat → Prop) (v : Value) : Nat → Prop := fun k => F k ∨ v.ownBlock = some k
theorem Fw.bd {w : World} {F : Nat → Prop} {base : Nat} {e : TypeId} {size : Nat} {v : Value} {n : Nat} {xs : List Value} (h : Bd F w) (r : w.ownsRow base e size v n xs) : Bd (Fw F v) w := by
  intro k hk
  rcases hk with q | q
  · exact h k q
  · obtain ⟨_, cur, q2⟩ := own_blk r k q
    exact heap_lt q2
theorem Fw.nw {w w' : World} {F : Nat → Prop} {e : TypeId} {size : Nat} {v : Value} {n : Nat} {xs : List Value} {N : Nat} (r : w.ownsRow N e size v n xs) (hN : w'.heap.size ≤ N) : Nw (Fw F v) F w' := by
  intro k hk
  rcases hk with q | q
  · exact .inl q
  · exact .inr (Nat.le_trans hN (own_blk r k q).1)
theorem RO.newL {w : World} {G N : Nat} {F : Nat → Prop} {vL vS vQ v : Value} {st : St} {l : List Int} (h : RO w G F vL vS vQ st) (r : w.ownsRow N 3 1 v l.length (ic l)) (hl : l.length ≤ st.size) : RO (w.setCell ⟨G, 1, none⟩ v) G (Fw F v) v vS vQ { st with buf := l } :=
  RO.put h.hp rfl (own_base r (Nat.zero_le _)) h.rs h.rq h.ap (.inl h.fg) (fun _ e => .inr e) (fun g e => .inl (h.fs g e)) (fun g e => .inl (h.fq g e)) (Fw.bd h.bd r) h.les h.leq hl h.sz
theorem RO.newS {w : World} {G N : Nat} {F : Nat → Prop} {vL vS vQ v : Value} {st : St} {l : List Wt} (h : RO w G F vL vS vQ st) (r : w.ownsRow N 62 3 v l.length (wc l)) (hN : ∀ k, F k → k < N) (hl : l.length ≤ 1024) : RO (w.setCell ⟨G, 2, none⟩ v) G (Fw F v) vL v vQ { st with snd := l } :=
  RO.put h.hp rfl h.rl (own_base r (Nat.zero_le _)) h.rq (fun g e e2 => by have h1 := (own_blk r g e).1; have h2 := hN g (h.fq g e2); omega) (.inl h.fg) (fun g e => .inl (h.fl g e)) (fun _ e => .inr e) (fun g e => .inl (h.fq g e)) (Fw.bd h.bd r) hl h.leq h.bl h.sz
theorem RO.newQ {w : World} {G N : Nat} {F : Nat → Prop} {vL vS vQ v : Value} {st : St} {l : List Wt} (h : RO w G F vL vS vQ st) (r : w.ownsRow N 62 3 v l.length (wc l)) (hN : ∀ k, F k → k < N) (hl : l.length ≤ 1024) : RO (w.setCell ⟨G, 3, none⟩ v) G (Fw F v) vL vS v { st with rcv := l } :=
  RO.put h.hp rfl h.rl h.rs (own_base r (Nat.zero_le _)) (fun g e e2 => by have h1 := (own_blk r g e2).1; have h2 := hN g (h.fs g e); omega) (.inl h.fg) (fun g e => .inl (h.fl g e)) (fun g e => .inl (h.fs g e)) (fun _ e => .inr e) (Fw.bd h.bd r) h.les hl h.bl h.sz
theorem KF.grown {F : Nat → Prop} {w a b : World} {o : Option Nat} (k : KF F w a) (g : a.grownBy b o) (h : ∀ x, o = some x → F x ∨ w.heap.size ≤ x) : KF F w b :=
  ⟨g.os.trans k.os, g.tape.trans k.tape, g.output.trans k.output, Nat.le_trans k.size g.size, fun x hx hr => (g.block x (Nat.lt_of_lt_of_le hx k.size) (fun e => by
    rcases h x e.symm with q | q
    · exact hr q
    · omega)).trans (k.block x hx hr)⟩
theorem heap_grown {a b : World} {o : Option Nat} {x : Nat} {ob : Obj} (g : a.grownBy b o) (h : a.heap[x]? = some ob) (hn : o ≠ some x) : b.heap[x]? = some ob := (g.block x (heap_lt h) (fun e => hn e.symm)).trans h
/-- one value more, in place or not -/
theorem RO.appL {w w' : World} {G : Nat} {F : Nat → Prop} {vL vS vQ v : Value} {st : St} {l : List Int} (h : RO w G F vL vS vQ st) (g : w.grownBy w' vL.ownBlock) (r : w'.ownsRow 0 3 1 v l.length (ic l)) (hl : l.length ≤ st.size) :
    RO (w'.setCell ⟨G, 1, none⟩ v) G (Fw F v) v vS vQ { st with buf := l } := by
  have hG : w'.heap[G]? = _ := heap_grown g h.hp (fun e => own_ty h.rl h.hp (by decide) e.symm)
  have bd' : Bd F w' := h.bd.mono g.size
  exact RO.put hG rfl r (own_keep h.rs fun k e => g.block k (h.bd k (h.fs k e)) (fun e2 => own_ne h.rs h.rl (by decide) k e e2.symm)) (own_keep h.rq fun k e => g.block k (h.bd k (h.fq k e)) (fun e2 => own_ne h.rq h.rl (by decide) k e e2.symm)) h.ap (.inl h.fg) (fun _ e => .inr e) (fun k e => .inl (h.fs k e)) (fun k e => .inl (h.fq k e)) (Fw.bd bd' r) h.les h.leq hl h.sz
theorem RO.appS {w w' : World} {G : Nat} {F : Nat → Prop} {vL vS vQ v : Value} {st : St} {l : List Wt} (h : RO w G F vL vS vQ st) (g : w.grownBy w' vS.ownBlock) (r : w'.ownsRow 0 62 3 v l.length (wc l)) (hat : v.ownBlock = vS.ownBlock ∨ v.ownBlock = some w.heap.size) (hl : l.length ≤ 1024) :
    RO (w'.setCell ⟨G, 2, none⟩ v) G (Fw F v) vL v vQ { st with snd := l } := by
  have hG : w'.heap[G]? = _ := heap_grown g h.hp (fun e => own_ty h.rs h.hp (by decide) e.symm)
  have bd' : Bd F w' := h.bd.mono g.size
  refine RO.put hG rfl (own_keep h.rl fun k e => g.block k (h.bd k (h.fl k e)) (fun e2 => own_ne h.rl h.rs (by decide) k e e2.symm)) r (own_keep h.rq fun k e => g.block k (h.bd k (h.fq k e)) (fun e2 => h.ap k e2.symm e)) ?_ (.inl h.fg) (fun k e => .inl (h.fl k e)) (fun _ e => .inr e) (fun k e => .inl (h.fq k e)) (Fw.bd bd' r) hl h.leq h.bl h.sz
  intro k e e2
  rcases hat with q | q
  · exact h.ap k (q ▸ e) e2
  · rw [q] at e
    cases e
    have := h.bd _ (h.fq _ e2)
    omega
theorem RO.appQ {w w' : World} {G : Nat} {F : Nat → Prop} {vL vS vQ v : Value} {st : St} {l : List Wt} (h : RO w G F vL vS vQ st) (g : w.grownBy w' vQ.ownBlock) (r : w'.ownsRow 0 62 3 v l.length (wc l)) (hat : v.ownBlock = vQ.ownBlock ∨ v.ownBlock = some w.heap.size) (hl : l.length ≤ 1024) :
    RO (w'.setCell ⟨G, 3, none⟩ v) G (Fw F v) vL vS v { st with rcv := l } := by
  have hG : w'.heap[G]? = _ := heap_grown g h.hp (fun e => own_ty h.rq h.hp (by decide) e.symm)
  have bd' : Bd F w' := h.bd.mono g.size
  refine RO.put hG rfl (own_keep h.rl fun k e => g.block k (h.bd k (h.fl k e)) (fun e2 => own_ne h.rl h.rq (by decide) k e e2.symm)) (own_keep h.rs fun k e => g.block k (h.bd k (h.fs k e)) (fun e2 => h.ap k e e2.symm)) r ?_ (.inl h.fg) (fun k e => .inl (h.fl k e)) (fun k e => .inl (h.fs k e)) (fun _ e => .inr e) (Fw.bd bd' r) h.les hl h.bl h.sz
  intro k e e2
  rcases hat with q | q
  · exact h.ap k e (q ▸ e2)
  · rw [q] at e2
    cases e2
    have := h.bd _ (h.fs _ e)
    omega
theorem Fw.at {F : Nat → Prop} {v v0 : Value} {w : World} {N : Nat} (hat : v.ownBlock = v0.ownBlock ∨ v.ownBlock = some N) (h0 : ∀ g, v0.ownBlock = some g → F g) (hs : w.heap.size ≤ N) : Nw (Fw F v) F w := by
  intro k hk
  rcases hk with q | q
  · exact .inl q
  · rcases hat with e | e
    · exact .inl (h0 k (e ▸ q))
    · rw [e] at q
      cases q
      exact .inr hs
end Rp
end Go.Proofs.Ytipimagajnocjaa
/- Package pipe: New, and what only looks, over this seat's program. -/
namespace Go.Proofs.Ytipimagajnocjaa
open Go.ChangeShapes Go.WideShapes Go.ChangeAt Go.RowKit
namespace Pi
open Ba Pe

theorem hmf : ∀ (fn : Fn) (first cap : Array Value) (w : World), (Instr.makeFunc fn first cap).run Try.prog w = .ok (.func fn first cap) w := fun _ _ _ _ => rfl
theorem new_err (s : Int) (w : World) (h : s < 0 ∨ 4 < s) :
    Calls Try.prog 18 #[.int .i64 s] w fun r w' => r = .returned (.tuple #[.pointer none, .int .i64 1]) ∧ w' = w := by
  go_enter Try.func18, Try.ntmps18
  go_wp2_with fail
  refine (Rn.new_err s _ h).mono ?_
  rintro r w1 ⟨rfl, rfl⟩
  go_wp2_with fail
  go_ret2
  exact ⟨rfl, rfl⟩
def st0 (s : Nat) : St := ⟨s, [], [], [], 0, 0, false⟩
set_option maxHeartbeats 1600000 in
theorem new_ok (s : Nat) (w : World) (h : s ≤ 4) :
    Calls Try.prog 18 #[.int .i64 (s : Int)] w fun r w' => ∃ B F, r = .returned (.tuple #[.pointer (some ⟨B, 0, none⟩), .int .i64 0]) ∧ Pp w' B F (st0 s) ∧ (∀ k, F k → w.heap.size ≤ k) ∧ Below w.heap.size w w' := by
  go_enter Try.func18, Try.ntmps18
  go_wp2_with fail
  refine (Rn.new_ok s _ h).mono ?_
  rintro r w1 ⟨rfl, r1, b1⟩
  have R1 := hide r1
  have B1 := hide b1
  clear r1 b1
  go_wp2_with fail
  refine (new_any _).mono ?_
  rintro r w2 ⟨rfl, p2, b2⟩
  have P2 := hide p2
  have B2 := hide b2
  clear p2 b2
  go_wp2_with fail
  refine (new_any _).mono ?_
  rintro r w3 ⟨rfl, p3, b3⟩
  have P3 := hide p3
  have B3 := hide b3
  clear p3 b3
  go_wp2_with fail
  go_ret2
  have z1 := R1.out.lt
  have z2 := P2.out.lt
  have z3 := P3.out.lt
  have b4 := below_alloc w3 (.cells #[.pointer (some ⟨w.heap.size, 0, none⟩), .pointer (some ⟨w1.heap.size, 0, none⟩), .pointer (some ⟨w2.heap.size, 0, none⟩), .int .i64 0, .int .i64 0, .bool false] 97)
  have hs := World.size_alloc w3 (.cells #[.pointer (some ⟨w.heap.size, 0, none⟩), .pointer (some ⟨w1.heap.size, 0, none⟩), .pointer (some ⟨w2.heap.size, 0, none⟩), .int .i64 0, .int .i64 0, .bool false] 97)
  refine ⟨w3.heap.size, fun k => w.heap.size ≤ k ∧ k ≤ w3.heap.size, rfl, PO.pp (R := w.heap.size) (S := w1.heap.size) (Q := w2.heap.size) (FS := fun k => k = w1.heap.size) (FQ := fun k => k = w2.heap.size) ⟨heap_new _ _, R1.out.below (btr B2.out (btr B3.out b4)), P2.out.below (btr B3.out b4), P3.out.below b4, ?_, ?_, ?_, ?_, ?_, ?_, ?_, ?_, ?_, ?_⟩, fun k hk => hk.1, btr B1.out (btr B2.out (btr B3.out b4))⟩
  all_goals first
    | (show _ ∧ _; omega)
    | (show ¬ _ = _; omega)
    | (intro k (hk : k = _); show _ ∧ _; omega)
    | (intro k (hk : k = _); show ¬ _ = _; omega)
    | (intro k hk; obtain ⟨h1, h2⟩ := hk; rw [hs]; omega)

theorem len_nil (w : World) :
    Calls Try.prog 30 #[.pointer none] w fun r w' => r = .returned (.int .i64 0) ∧ w' = w := by
  go_enter Try.func30, Try.ntmps30
  go_wp2_with fail
  go_ret
  exact ⟨rfl, rfl⟩
theorem len_any (B : Nat) (F : Nat → Prop) (st : St) (w : World) (h : Pp w B F st) :
    Calls Try.prog 30 #[.pointer (some ⟨B, 0, none⟩)] w fun r w' => r = .returned (.int .i64 (st.buf.length : Int)) ∧ w' = w := by
  obtain ⟨R, S, Q, FS, FQ, h⟩ := h
  have y0 := cell_of h.hp 0
  simp at y0
  have RG := hide h.rg
  clear h
  go_enter Try.func30, Try.ntmps30
  go_wp2_with fail
  refine (Rn.len_any R _ _ _ RG.out).mono ?_
  rintro r w1 ⟨rfl, rfl⟩
  go_wp2_with fail
  go_ret
  exact ⟨rfl, rfl⟩
theorem cap_nil (w : World) :
    Calls Try.prog 68 #[.pointer none] w fun r w' => r = .returned (.int .i64 0) ∧ w' = w := by
  go_enter Try.func68, Try.ntmps68
  go_wp2_with fail
  go_ret
  exact ⟨rfl, rfl⟩
theorem cap_any (B : Nat) (F : Nat → Prop) (st : St) (w : World) (h : Pp w B F st) :
    Calls Try.prog 68 #[.pointer (some ⟨B, 0, none⟩)] w fun r w' => r = .returned (.int .i64 (st.size : Int)) ∧ w' = w := by
  obtain ⟨R, S, Q, FS, FQ, h⟩ := h
  have y0 := cell_of h.hp 0
  simp at y0
  have RG := hide h.rg
  clear h
  go_enter Try.func68, Try.ntmps68
  go_wp2_with fail
  refine (Rn.cap_any R _ _ _ RG.out).mono ?_
  rintro r w1 ⟨rfl, rfl⟩
  go_wp2_with fail
  go_ret
  exact ⟨rfl, rfl⟩
theorem closed_nil (w : World) :
    Calls Try.prog 31 #[.pointer none] w fun r w' => r = .returned (.bool false) ∧ w' = w := by
  go_enter Try.func31, Try.ntmps31
  go_wp2_with fail
  go_ret
  exact ⟨rfl, rfl⟩
theorem closed_any (B : Nat) (F : Nat → Prop) (st : St) (w : World) (h : Pp w B F st) :
    Calls Try.prog 31 #[.pointer (some ⟨B, 0, none⟩)] w fun r w' => r = .returned (.bool st.closed) ∧ w' = w := by
  obtain ⟨R, S, Q, FS, FQ, h⟩ := h
  have y0 := cell_of h.hp 5
  simp at y0
  clear h
  go_enter Try.func31, Try.ntmps31
  go_wp2_with fail
  go_ret
  exact ⟨rfl, rfl⟩
theorem side_nil (b : Bool) (w : World) :
    Calls Try.prog 54 #[.pointer none, .bool b] w fun r w' => r = .returned (.pointer none) ∧ w' = w := by
  go_enter Try.func54, Try.ntmps54
  go_wp2_with fail
  go_ret
  exact ⟨rfl, rfl⟩
def sd (S Q : Nat) (b : Bool) : Nat := if b then S else Q
theorem side_c (B S Q : Nat) (b : Bool) (w : World) (h1 : w.cell? ⟨B, 1, none⟩ = some (.pointer (some ⟨S, 0, none⟩))) (h2 : w.cell? ⟨B, 2, none⟩ = some (.pointer (some ⟨Q, 0, none⟩))) :
    Calls Try.prog 54 #[.pointer (some ⟨B, 0, none⟩), .bool b] w fun r w' => r = .returned (.pointer (some ⟨sd S Q b, 0, none⟩)) ∧ w' = w := by
  unfold sd
  cases b
  · simp only [Bool.false_eq_true, if_false]
    go_enter Try.func54, Try.ntmps54
    go_wp2_with fail
    go_ret
    exact ⟨rfl, rfl⟩
  · simp only [if_true]
    go_enter Try.func54, Try.ntmps54
    go_wp2_with fail
    go_ret
    exact ⟨rfl, rfl⟩
theorem PO.side {w : World} {B : Nat} {F : Nat → Prop} {R S Q : Nat} {FS FQ : Nat → Prop} {st : St} (h : PO w B F R S Q FS FQ st) (b : Bool) :
    Calls Try.prog 54 #[.pointer (some ⟨B, 0, none⟩), .bool b] w fun r w' => r = .returned (.pointer (some ⟨sd S Q b, 0, none⟩)) ∧ w' = w :=
  side_c B S Q b w (cell_of h.hp 1) (cell_of h.hp 2)
theorem PO.pew {w : World} {B : Nat} {F : Nat → Prop} {R S Q : Nat} {FS FQ : Nat → Prop} {st : St} (h : PO w B F R S Q FS FQ st) (b : Bool) : Pw w (sd S Q b) (Pi.own st b) := by
  cases b
  · exact h.pq.pw
  · exact h.ps.pw
theorem waiting_nil (b : Bool) (w : World) :
    Calls Try.prog 29 #[.pointer none, .bool b] w fun r w' => (∃ oa, r = .returned (.slice oa 0 0)) ∧ Below w.heap.size w w' := by
  go_enter Try.func29, Try.ntmps29
  go_wp2_with fail
  refine (side_nil b _).mono ?_
  rintro r w1 ⟨rfl, rfl⟩
  go_wp2_with fail
  refine (list_nil _).mono ?_
  rintro r w2 ⟨⟨oa, rfl⟩, b2⟩
  have B2 := hide b2
  clear b2
  go_wp2_with fail
  go_ret
  exact ⟨⟨oa, rfl⟩, B2.out⟩
theorem waiting_any (B : Nat) (F : Nat → Prop) (st : St) (b : Bool) (w : World) (h : Pp w B F st) :
    Calls Try.prog 29 #[.pointer (some ⟨B, 0, none⟩), .bool b] w fun r w' => ∃ oa c, r = .returned (.slice oa (own st b).length c) ∧ WAt w' oa (own st b) ∧ Below w.heap.size w w' := by
  obtain ⟨R, S, Q, FS, FQ, h⟩ := h
  have SD := hide (h.side b)
  have LS := hide (list_any (sd S Q b) _ w (h.pew b))
  clear h
  generalize sd S Q b = X at SD LS
  generalize own st b = L at LS ⊢
  go_enter Try.func29, Try.ntmps29
  go_wp2_with fail
  refine SD.out.mono ?_
  rintro r w1 ⟨rfl, rfl⟩
  go_wp2_with fail
  refine LS.out.mono ?_
  rintro r w2 ⟨oa, c, rfl, hA, b2⟩
  have B2 := hide b2
  have HA := hide hA
  clear b2 hA
  go_wp2_with fail
  go_ret
  exact ⟨oa, c, rfl, HA.out, B2.out⟩
theorem ready1_any (B : Nat) (F : Nat → Prop) (st : St) (b : Bool) (X : Nat) (w : World) (h : Pp w B F st) (hX : w.cell? ⟨X, 0, none⟩ = some (.pointer (some ⟨B, 0, none⟩))) :
    Calls Try.prog 58 #[.bool b, .pointer (some ⟨X, 0, none⟩)] w fun r w' => r = .returned (.bool (decide (0 < (own st b).length))) ∧ w' = w := by
  obtain ⟨R, S, Q, FS, FQ, h⟩ := h
  have SD := hide (h.side b)
  have LN := hide (Pe.len_any (sd S Q b) _ w (h.pew b))
  clear h
  generalize sd S Q b = Y at SD LN
  generalize own st b = L at LN ⊢
  have hd : decide (0 < (L.length : Int)) = decide (0 < L.length) := by simp
  go_enter Try.func58, Try.ntmps58
  go_wp2_with fail
  refine SD.out.mono ?_
  rintro r w1 ⟨rfl, rfl⟩
  go_wp2_with fail
  refine LN.out.mono ?_
  rintro r w2 ⟨rfl, rfl⟩
  go_wp2_with fail
  go_ret
  exact ⟨ret_bool (by first | exact hd | simp), rfl⟩
end Pi
end Go.Proofs.Ytipimagajnocjaa
/- The reference's channel: New, Ready, behind, without, over this seat's program. -/
namespace Go.Proofs.Ytipimagajnocjaa
open Go.ChangeShapes Go.WideShapes Go.ChangeAt Go.RowKit
namespace Rp
open Ba Pe _root_.Go.Proofs.Ytipimagajnocjaa.Pi

theorem info_rw : (Try.prog.info? 62).map (fun i => (i.zero, i.size, i.bytes)) = some (some (wv ⟨0, 0, 0⟩), 3, 24) := by kernel_rfl
theorem info_i : (Try.prog.info? 3).map (fun i => (i.zero, i.size, i.bytes)) = some (some (.int .i64 0), 1, 8) := by kernel_rfl
theorem rnew_err (s : Int) (w : World) (h : s < 0 ∨ 4 < s) :
    Calls Try.prog 20 #[.int .i64 s] w fun r w' => r = .returned (.tuple #[.pointer none, .int .i64 1]) ∧ w' = w := by
  by_cases h1 : s < 0
  · have d1 : decide (s < 0) = true := decide_eq_true (by omega)
    go_enter Try.func20, Try.ntmps20
    go_wp2_with fail
    go_ret2
    exact ⟨rfl, rfl⟩
  · have d1 : decide (s < 0) = false := decide_eq_false (by omega)
    have d2 : decide (4 < s) = true := decide_eq_true (by omega)
    go_enter Try.func20, Try.ntmps20
    go_wp2_with fail
    go_ret2
    exact ⟨rfl, rfl⟩
theorem rnew_ok (s : Nat) (w : World) (h : s ≤ 4) :
    Calls Try.prog 20 #[.int .i64 (s : Int)] w fun r w' => ∃ G F, r = .returned (.tuple #[.pointer (some ⟨G, 0, none⟩), .int .i64 0]) ∧ Rr w' G F (st0 s) ∧ (∀ k, F k → w.heap.size ≤ k) ∧ Below w.heap.size w w' := by
  have d1 : decide ((s : Int) < 0) = false := decide_eq_false (by omega)
  have d2 : decide (4 < (s : Int)) = false := decide_eq_false (by omega)
  go_enter Try.func20, Try.ntmps20
  go_wp2_with fail
  go_ret2
  have hs := World.size_alloc w (.cells #[.int .i64 (s : Int), .slice none 0 0, .slice none 0 0, .slice none 0 0, .bool false, .int .i64 0, .int .i64 0] 82)
  exact ⟨w.heap.size, fun k => k = w.heap.size, rfl, RO.rr ⟨heap_new _ _, World.ownsRow_nil _ _ _ _, World.ownsRow_nil _ _ _ _, World.ownsRow_nil _ _ _ _, fun g e => by simp [Value.ownBlock] at e, rfl, fun g e => by simp [Value.ownBlock] at e, fun g e => by simp [Value.ownBlock] at e, fun g e => by simp [Value.ownBlock] at e, fun k (e : k = _) => by rw [hs]; omega, Nat.zero_le _, Nat.zero_le _, Nat.zero_le _, h⟩, fun k (e : k = _) => by omega, below_alloc _ _⟩
/-- what a walk reads of the channel -/
theorem RO.read {w : World} {G : Nat} {F : Nat → Prop} {vL vS vQ : Value} {st : St} (h : RO w G F vL vS vQ st) : ∃ ol cl os cs oq cq, (vL = .slice ol st.buf.length cl ∧ At w ol st.buf ∧ st.buf.length ≤ cl) ∧ (vS = .slice os st.snd.length cs ∧ WAt w os st.snd ∧ st.snd.length ≤ cs) ∧ (vQ = .slice oq st.rcv.length cq ∧ WAt w oq st.rcv ∧ st.rcv.length ≤ cq) := by
  obtain ⟨ol, cl, h1, h2, h3⟩ := own_at h.rl
  obtain ⟨os, cs, g1, g2, g3, _⟩ := owns_wat h.rs
  obtain ⟨oq, cq, k1, k2, k3, _⟩ := owns_wat h.rq
  exact ⟨ol, cl, os, cs, oq, cq, ⟨h1, h2, h3⟩, ⟨g1, g2, g3⟩, k1, k2, k3⟩
set_option maxRecDepth 100000 in
set_option maxHeartbeats 1600000 in
theorem rready_any (G : Nat) (F : Nat → Prop) (st : St) (b : Bool) (w : World) (h : Rr w G F st) :
    Calls Try.prog 35 #[.pointer (some ⟨G, 0, none⟩), .bool b] w fun r w' => r = .returned (.bool (rdy st b)) ∧ Below w.heap.size w w' := by
  obtain ⟨vL, vS, vQ, h⟩ := h
  obtain ⟨ol, cl, os, cs, oq, cq, ⟨rfl, _, _⟩, ⟨rfl, _, _⟩, rfl, _, _⟩ := h.read
  have y0 : w.cell? ⟨G, 0, none⟩ = some (.int .i64 (st.size : Int)) := cell_of h.hp 0
  have y1 : w.cell? ⟨G, 1, none⟩ = some (.slice ol st.buf.length cl) := cell_of h.hp 1
  have y2 : w.cell? ⟨G, 2, none⟩ = some (.slice os st.snd.length cs) := cell_of h.hp 2
  have y3 : w.cell? ⟨G, 3, none⟩ = some (.slice oq st.rcv.length cq) := cell_of h.hp 3
  have y4 : w.cell? ⟨G, 4, none⟩ = some (.bool st.closed) := cell_of h.hp 4
  clear h
  unfold rdy room own
  cases b
  · simp only [Bool.false_eq_true, if_false, Bool.not_false, if_true]
    rw [Bool.or_assoc, Bool.or_comm (decide (0 < st.buf.length)), ← Bool.or_assoc]
    clear y0 y3
    generalize st.snd.length = n1 at y2 ⊢
    generalize st.buf.length = n2 at y1 ⊢
    generalize st.closed = cl0 at y4 ⊢
    have e1 : decide (0 < (n1 : Int)) = decide (0 < n1) := by simp
    have e2 : decide (0 < (n2 : Int)) = decide (0 < n2) := by simp
    cases cl0
    · by_cases h1 : 0 < n1
      · have d1 : decide (0 < n1) = true := decide_eq_true h1
        rw [d1] at e1 ⊢
        go_enter Try.func35, Try.ntmps35
        go_wp2_with fail
        go_ret
        exact ⟨ret_bool (by simp), Below.refl _ _⟩
      · have d1 : decide (0 < n1) = false := decide_eq_false h1
        rw [d1] at e1 ⊢
        go_enter Try.func35, Try.ntmps35
        go_wp2_with fail
        go_ret
        exact ⟨ret_bool (by simp), Below.refl _ _⟩
    · skip
      go_enter Try.func35, Try.ntmps35
      go_wp2_with fail
      go_ret
      exact ⟨ret_bool (by simp), Below.refl _ _⟩
  · simp only [if_true, Bool.not_true, Bool.false_eq_true, if_false]
    rw [Bool.or_assoc, Bool.or_comm (decide (st.buf.length < st.size)), ← Bool.or_assoc]
    clear y2
    generalize st.rcv.length = n1 at y3 ⊢
    generalize st.buf.length = n2 at y1 ⊢
    generalize st.size = n3 at y0 ⊢
    generalize st.closed = cl0 at y4 ⊢
    have e1 : decide (0 < (n1 : Int)) = decide (0 < n1) := by simp
    have e2 : decide ((n2 : Int) < (n3 : Int)) = decide (n2 < n3) := by simp
    cases cl0
    · by_cases h1 : 0 < n1
      · have d1 : decide (0 < n1) = true := decide_eq_true h1
        rw [d1] at e1 ⊢
        go_enter Try.func35, Try.ntmps35
        go_wp2_with fail
        go_quiet (fail)
        go_wp2_with fail
        go_ret
        exact ⟨ret_bool (by simp), bdrew _ _⟩
      · have d1 : decide (0 < n1) = false := decide_eq_false h1
        rw [d1] at e1 ⊢
        go_enter Try.func35, Try.ntmps35
        go_wp2_with fail
        go_quiet (fail)
        go_wp2_with fail
        go_ret
        exact ⟨ret_bool (by simp), bdrew _ _⟩
    · skip
      go_enter Try.func35, Try.ntmps35
      go_wp2_with fail
      go_quiet (fail)
      go_wp2_with fail
      go_ret
      exact ⟨ret_bool (by simp), bdrew _ _⟩

set_option maxRecDepth 100000 in
set_option maxHeartbeats 1600000 in
theorem rbehind_any (oa : Option Addr) (x : Wt) (l : List Wt) (c : Nat) (w : World) (hA : WAt w oa (x :: l)) (hc : l.length + 1 ≤ c) (hl : l.length ≤ 1024) :
    Calls Try.prog 66 #[.slice oa (l.length + 1) c] w fun r w' => ∃ ob d, r = .returned (.slice ob l.length d) ∧ w'.ownsRow w.heap.size 62 3 (.slice ob l.length d) l.length (wc l) ∧ Below w.heap.size w w' := by
  cases hi : Try.prog.info? 62 with
  | none => have := info_rw; rw [hi] at this; cases this
  | some i0 =>
  have hx2 := info_rw
  rw [hi] at hx2
  simp at hx2
  have INF := hide (And.intro hi hx2)
  clear hx2 hi
  obtain ⟨b, off, rfl, a0, a1, a2⟩ := hA 0 x rfl
  have HA1 := hide hA
  clear hA a0 a1 a2
  have hsrc : ∀ off' : Nat, (0 < l.length → off' = off + 3) → ∃ ob d W, (Builtin.append_ #[76, 76] 76 #[.slice none 0 0, .slice (some ⟨b, off', none⟩) l.length (c - 1)]).run Try.prog w = .ok (.slice ob l.length d) W ∧ W.ownsRow w.heap.size 62 3 (.slice ob l.length d) l.length (wc l) ∧ Below w.heap.size w W := by
    intro off' ho
    obtain ⟨v', W, hr, h2, h5, _⟩ := run_append_own (P := Try.prog) w w.heap.size 76 76 62 i0 (wv ⟨0, 0, 0⟩) 3 24 Try.underlying76 INF.out.1 INF.out.2.1 INF.out.2.2.1 INF.out.2.2.2 rfl (by decide) (.slice none 0 0) 0 [] (World.ownsRow_nil _ _ _ _) ⟨b, off', none⟩ l.length (c - 1) (wc l) (wc_len l) (by
      intro j u hj
      have hjl : j < l.length * 3 := by
        have := (List.getElem?_eq_some_iff.1 hj).1
        rw [wc_len] at this
        exact this
      obtain rfl := ho (by omega)
      have hq : j / 3 < l.length := by omega
      obtain ⟨y, hy⟩ : ∃ y, l[j / 3]? = some y := ⟨_, List.getElem?_eq_getElem hq⟩
      obtain ⟨b', o', e, g0, g1, g2⟩ := HA1.out (j / 3 + 1) y (by simpa using hy)
      simp at e
      obtain ⟨rfl, rfl⟩ := e
      obtain ⟨k0, k1, k2⟩ := wc_at l (j / 3) y hy
      rw [Addr.add_lit]
      have hm : j % 3 = 0 ∨ j % 3 = 1 ∨ j % 3 = 2 := by omega
      rcases hm with hm | hm | hm
      · rw [show off + 3 + j = off + (j / 3 + 1) * 3 by omega, g0]
        rw [show j / 3 * 3 = j by omega, hj] at k0
        exact k0.symm
      · rw [show off + 3 + j = off + (j / 3 + 1) * 3 + 1 by omega, g1]
        rw [show j / 3 * 3 + 1 = j by omega, hj] at k1
        exact k1.symm
      · rw [show off + 3 + j = off + (j / 3 + 1) * 3 + 2 by omega, g2]
        rw [show j / 3 * 3 + 2 = j by omega, hj] at k2
        exact k2.symm) (wc_one l) (by unfold maxLen; omega) (by omega) (Nat.le_refl _)
    rw [Nat.zero_add, List.nil_append] at h2
    obtain ⟨ob, d, rfl, _, _⟩ := owns_wat h2
    exact ⟨ob, d, W, hr, h2, (Below.refl _ _).grown h5 (Nat.le_refl _) (fun x hx => by cases hx)⟩
  by_cases hc1 : c = 1
  · obtain rfl := hc1
    obtain rfl : l = [] := List.eq_nil_of_length_eq_zero (by omega)
    obtain ⟨ob, d, W, hr, ho, hb⟩ := hsrc off (fun h => by simp at h)
    have HR : Hid ((Builtin.append_ #[76, 76] 76 #[.slice none 0 0, .slice (some ⟨b, off, none⟩) 0 0]).run Try.prog w = .ok (.slice ob 0 d) W) := hr
    have HO := hide ho
    have HB := hide hb
    clear ho hb hr hsrc
    go_enter Try.func66, Try.ntmps66
    go_wp2_with (at_builtin; refine Lib.wpList_append_run _ rfl _ _ 76 76 rfl _ _ rfl rfl _ _ HR.out ?_)
    go_ret
    exact ⟨ob, d, rfl, HO.out, HB.out⟩
  · obtain ⟨ob, d, W, hr, ho, hb⟩ := hsrc (off + 3) (fun _ => rfl)
    have HR := hide hr
    have HO := hide ho
    have HB := hide hb
    clear ho hb hr hsrc
    go_enter Try.func66, Try.ntmps66
    go_wp2_with (at_builtin; refine Lib.wpList_append_run _ rfl _ _ 76 76 rfl _ _ rfl rfl _ _ HR.out ?_)
    go_ret
    exact ⟨ob, d, rfl, HO.out, HB.out⟩
set_option maxRecDepth 100000 in
set_option maxHeartbeats 1600000 in
theorem rwithout_any (oa : Option Addr) (l : List Wt) (c : Nat) (g : Int) (w : World) (hA : WAt w oa l) (hle : l.length ≤ 1024) :
    Calls Try.prog 56 #[.slice oa l.length c, .int .i64 g] w fun r w' => ∃ ob d, r = .returned (.slice ob (dr g l).length d) ∧ w'.ownsRow w.heap.size 62 3 (.slice ob (dr g l).length d) (dr g l).length (wc (dr g l)) ∧ Below w.heap.size w w' := by
  have HA := hide hA
  clear hA
  cases hi : Try.prog.info? 62 with
  | none => have := info_rw; rw [hi] at this; cases this
  | some i0 =>
  have hx2 := info_rw
  rw [hi] at hx2
  simp at hx2
  have INF := hide (And.intro hi hx2)
  clear hx2 hi
  go_enter Try.func56, Try.ntmps56
  go_wp2_with fail
  go_loopw [5, 10] (fun rv i wr => ∃ (v : Value) (k : Nat), k ≤ l.length ∧ i = .int .i64 k ∧ rv = v ∧ wr.ownsRow w.heap.size 62 3 v (dr g (l.take k)).length (wc (dr g (l.take k))) ∧ Below w.heap.size w wr) (fun _ i _ => l.length - (intOf i).toNat)
  case atStart => exact ⟨_, 0, Nat.zero_le _, rfl, rfl, World.ownsRow_nil _ _ _ _, Below.refl _ _⟩
  case round =>
    obtain ⟨v, k, hk, rfl, rfl, ho, hb⟩ := hrel
    by_cases hlt : k < l.length
    · have hlt' : (k : Int) < (l.length : Int) := by omega
      obtain ⟨x, hx⟩ : ∃ x, l[k]? = some x := ⟨_, List.getElem?_eq_getElem hlt⟩
      obtain ⟨b, off, rfl, q0, q1, q2⟩ := HA.out.below hb k x hx
      have DT := hide (dr_take (g := g) hx)
      have hdl : (dr g (l.take k)).length ≤ k := by
        have h1 := dr_len g (l.take k)
        have h2 := List.length_take_le k l
        omega
      clear hx
      obtain ⟨X, hX⟩ : ∃ X, X = dr g (l.take k) := ⟨_, rfl⟩
      rw [← hX] at DT hdl ho
      clear hX
      have BX := below_alloc wr (.cells #[.int .i64 x.g, .int .i64 x.c, .int .i64 x.v] 62)
      cases hg : x.g == g
      · have hg' : (x.g != g) = true := by simp [bne, hg]
        have EX : Hid (dr g (l.take (k + 1)) = X ++ [x]) := by
          show _ = _
          have := DT.out
          rw [hg] at this
          simpa using this
        have OW1 := own_below ho BX
        have HB1 := btr hb BX
        clear ho hb BX DT
        have BY := below_alloc (wr.alloc (.cells #[.int .i64 x.g, .int .i64 x.c, .int .i64 x.v] 62)) (.cells #[.int .i64 x.g, .int .i64 x.c, .int .i64 x.v] 62)
        have OW := hide (own_below OW1 BY)
        have HB := hide (btr HB1 BY)
        have SR := src3 (wr.alloc (.cells #[.int .i64 x.g, .int .i64 x.c, .int .i64 x.v] 62)) x 62
        rw [World.size_alloc] at SR
        have SRC := hide SR
        clear OW1 HB1 BY SR
        go_wp2_with (at_builtin; refine wpList_append_own _ rfl _ _ 76 rfl w.heap.size 62 i0 (wv ⟨0, 0, 0⟩) 3 24 Try.underlying76 INF.out.1 INF.out.2.1 INF.out.2.2.1 INF.out.2.2.2 rfl (by decide) _ _ _ rfl OW.out ⟨wr.heap.size + 1, 0, none⟩ 1 1 (wc [x]) rfl rfl ?c1 ?c2 ?c3 ?c4 ?c5 ?_)
        case c1 => first | exact SRC.out | exact fun j u hj => hj
        case c2 => exact wc_one _
        case c3 => unfold maxLen; omega
        case c4 => omega
        case c5 => first | exact HB.out.size | (have := HB.out.size; rw [World.size_alloc, World.size_alloc] at this; exact this)
        intro v' w3 ho hg3 _
        have B3 : Hid (Below w.heap.size w w3) := HB.out.grown hg3 HB.out.size (fun x hx => (OW.out.lt x hx).1)
        have O3 : Hid (w3.ownsRow w.heap.size 62 3 v' (dr g (l.take (k + 1))).length (wc (dr g (l.take (k + 1))))) := by
          show World.ownsRow _ _ _ _ _ _ _
          rw [EX.out, wc_app, List.length_append]
          exact ho
        clear ho hg3
        go_wp2_with fail
        go_roundw
        case rel =>
          first
            | exact ⟨v', k + 1, by omega, by go_num, rfl, O3.out, B3.out⟩
            | ((repeat apply Exists.intro); exact ⟨⟨v', k + 1, by omega, by go_num, rfl, O3.out, B3.out⟩, rfl⟩)
        case measure => simp [intOf]; omega
      · have hg' : (x.g != g) = false := by simp [bne, hg]
        have EX : Hid (dr g (l.take (k + 1)) = X) := by
          show _ = _
          have := DT.out
          rw [hg] at this
          simpa using this
        have O3 : Hid ((wr.alloc (.cells #[.int .i64 x.g, .int .i64 x.c, .int .i64 x.v] 62)).ownsRow w.heap.size 62 3 u5 (dr g (l.take (k + 1))).length (wc (dr g (l.take (k + 1))))) := by
          show World.ownsRow _ _ _ _ _ _ _
          rw [EX.out]
          exact own_below ho BX
        have B3 := hide (btr hb BX)
        clear ho hb BX DT
        go_wp2_with fail
        go_roundw
        case rel =>
          first
            | exact ⟨_, k + 1, by omega, by go_num, rfl, O3.out, B3.out⟩
            | exact ⟨k + 1, by omega, by go_num, O3.out, B3.out⟩
        case measure => simp [intOf]; omega
    · have hlt' : ¬ ((k : Int) < (l.length : Int)) := by omega
      rw [List.take_of_length_le (by omega)] at ho
      obtain ⟨oa', c', hv', _, _⟩ := owns_wat ho
      subst hv'
      have HO := hide ho
      have HB := hide hb
      clear ho hb
      go_wp2_with fail
      go_ret
      exact ⟨oa', c', rfl, HO.out, HB.out⟩
end Rp
end Go.Proofs.Ytipimagajnocjaa
/- Package pipe: ready, Ready, over this seat's program. -/
namespace Go.Proofs.Ytipimagajnocjaa
open Go.ChangeShapes Go.WideShapes Go.ChangeAt Go.RowKit
namespace Pi
open Ba Pe

theorem ready_nil (b : Bool) (f : Value) (w : World) :
    Calls Try.prog 51 #[.pointer none, .bool b, f] w fun r w' => r = .returned (.bool false) ∧ w' = w := by
  go_enter Try.func51, Try.ntmps51
  go_wp2_with fail
  go_ret
  exact ⟨rfl, rfl⟩
set_option maxHeartbeats 1600000 in
theorem ready_g (n : FuncId) (caps : Array Value) (hn : ∀ (a : Array Value) (u : World), (callFunc n a).run Try.prog u = .ok (.enter n a) u) (b : Bool) (B : Nat) (F : Nat → Prop) (st : St) (send : Bool) (w : World) (h : Pp w B F st)
    (CL : Calls Try.prog n (#[.bool (!send)] ++ caps) w fun r w' => r = .returned (.bool b) ∧ Below w.heap.size w w') :
    Calls Try.prog 51 #[.pointer (some ⟨B, 0, none⟩), .bool send, .func (.func n) #[] caps] w fun r w' => r = .returned (.bool (st.closed || room st send || b)) ∧ Below w.heap.size w w' := by
  have PP := hide h
  have LN := hide (len_any B F st w h)
  have CP := hide (cap_any B F st w h)
  have CC := hide CL
  obtain ⟨R, S, Q, FS, FQ, h⟩ := h
  have y5 := cell_of h.hp 5
  simp at y5
  clear h CL
  have hd0 : decide (0 < (st.buf.length : Int)) = decide (0 < st.buf.length) := by simp
  have hd1 : decide ((st.buf.length : Int) < (st.size : Int)) = decide (st.buf.length < st.size) := by simp
  unfold room
  cases send
  · simp only [Bool.false_eq_true, if_false]
    cases hc : st.closed
    · cases he : decide (0 < st.buf.length)
      · rw [he] at hd0
        rw [hc] at y5
        go_enter Try.func51, Try.ntmps51
        go_wp2_with fail
        refine LN.out.mono ?_
        rintro r w1 ⟨rfl, rfl⟩
        go_wp2_with fail
        refine CC.out.mono ?_
        rintro r w2 ⟨rfl, b2⟩
        have B2 := hide b2
        clear b2
        go_wp2_with fail
        go_ret
        exact ⟨ret_bool (by simp), B2.out⟩
      · rw [he] at hd0
        rw [hc] at y5
        go_enter Try.func51, Try.ntmps51
        go_wp2_with fail
        refine LN.out.mono ?_
        rintro r w1 ⟨rfl, rfl⟩
        go_wp2_with fail
        go_ret
        exact ⟨ret_bool (by simp), Below.refl _ _⟩
    · rw [hc] at y5
      go_enter Try.func51, Try.ntmps51
      go_wp2_with fail
      refine LN.out.mono ?_
      rintro r w1 ⟨rfl, rfl⟩
      go_wp2_with fail
      go_ret
      exact ⟨ret_bool (by simp), Below.refl _ _⟩
  · simp only [if_true]
    cases hc : st.closed
    · cases he : decide (st.buf.length < st.size)
      · rw [he] at hd1
        rw [hc] at y5
        go_enter Try.func51, Try.ntmps51
        go_wp2_with fail
        refine LN.out.mono ?_
        rintro r w1 ⟨rfl, rfl⟩
        go_wp2_with fail
        refine LN.out.mono ?_
        rintro r w1 ⟨rfl, rfl⟩
        go_wp2_with fail
        refine CP.out.mono ?_
        rintro r w1 ⟨rfl, rfl⟩
        go_wp2_with fail
        refine CC.out.mono ?_
        rintro r w2 ⟨rfl, b2⟩
        have B2 := hide b2
        clear b2
        go_wp2_with fail
        go_ret
        exact ⟨ret_bool (by simp), B2.out⟩
      · rw [he] at hd1
        rw [hc] at y5
        go_enter Try.func51, Try.ntmps51
        go_wp2_with fail
        refine LN.out.mono ?_
        rintro r w1 ⟨rfl, rfl⟩
        go_wp2_with fail
        refine LN.out.mono ?_
        rintro r w1 ⟨rfl, rfl⟩
        go_wp2_with fail
        refine CP.out.mono ?_
        rintro r w1 ⟨rfl, rfl⟩
        go_wp2_with fail
        go_ret
        exact ⟨ret_bool (by simp), Below.refl _ _⟩
    · rw [hc] at y5
      go_enter Try.func51, Try.ntmps51
      go_wp2_with fail
      refine LN.out.mono ?_
      rintro r w1 ⟨rfl, rfl⟩
      go_wp2_with fail
      refine LN.out.mono ?_
      rintro r w1 ⟨rfl, rfl⟩
      go_wp2_with fail
      refine CP.out.mono ?_
      rintro r w1 ⟨rfl, rfl⟩
      go_wp2_with fail
      go_ret
      exact ⟨ret_bool (by simp), Below.refl _ _⟩
theorem Ready_nil (b : Bool) (w : World) :
    Calls Try.prog 34 #[.pointer none, .bool b] w fun r w' => r = .returned (.bool false) ∧ Below w.heap.size w w' := by
  have hm := hmf
  go_enter Try.func34, Try.ntmps34
  go_wp2_with fail
  refine (ready_nil b _ _).mono ?_
  rintro r w1 ⟨rfl, rfl⟩
  go_wp2_with fail
  go_ret
  exact ⟨rfl, below_alloc _ _⟩
theorem Ready_any (B : Nat) (F : Nat → Prop) (st : St) (b : Bool) (w : World) (h : Pp w B F st) :
    Calls Try.prog 34 #[.pointer (some ⟨B, 0, none⟩), .bool b] w fun r w' => r = .returned (.bool (rdy st b)) ∧ Below w.heap.size w w' := by
  have hm := hmf
  have BA := hide (below_alloc w (.cells #[.pointer (some ⟨B, 0, none⟩)] 55))
  have PA := hide (h.below BA.out)
  have R1 := hide (ready1_any B F st (!b) w.heap.size _ PA.out (cell_of (heap_new _ _) 0))
  have R2 := hide (ready_g 58 #[.pointer (some ⟨w.heap.size, 0, none⟩)] (fun _ _ => by rfl) (decide (0 < (own st (!b)).length)) B F st b _ PA.out (R1.out.mono (by rintro r w1 ⟨rfl, rfl⟩; exact ⟨rfl, Below.refl _ _⟩)))
  clear h R1
  unfold rdy
  generalize (st.closed || room st b || decide (0 < (own st (!b)).length)) = q at R2 ⊢
  go_enter Try.func34, Try.ntmps34
  go_wp2_with fail
  refine R2.out.mono ?_
  rintro r w1 ⟨rfl, b1⟩
  have B1 := hide (btr BA.out b1)
  clear b1
  go_wp2_with fail
  go_ret
  exact ⟨rfl, B1.out⟩
end Pi
end Go.Proofs.Ytipimagajnocjaa
/- Package pipe: Send, out, Recv, over this seat's program. -/
namespace Go.Proofs.Ytipimagajnocjaa
open Go.ChangeShapes Go.WideShapes Go.ChangeAt Go.RowKit
namespace Pi
open Ba Pe

theorem size_got : (Try.prog.info? 51).map (·.size) = some 7 := by kernel_rfl
theorem loadVar_got {w : World} {b : Nat} {c : Array Value} {t : TypeId} (h : w.heap[b]? = some (.cells c t (0, 0))) (hc : c.size = 7) : (loadVar 51 ⟨b, 0, none⟩).run Try.prog w = .ok (.agg c) w :=
  run_loadVar_row w b t _ _ _ _ h Try.underlying51 rfl (by rw [size_got, hc])
theorem got_set {w : World} {b : Nat} {x0 x1 x2 x3 x4 x5 x6 : Value} {t : TypeId} (h : w.heap[b]? = some (.cells #[x0, x1, x2, x3, x4, x5, x6] t (0, 0))) (u0 u1 u2 u3 u4 u5 u6 : Value) : (((((((w.setCell ⟨b, 0, none⟩ u0).setCell ⟨b, 1, none⟩ u1).setCell ⟨b, 2, none⟩ u2).setCell ⟨b, 3, none⟩ u3).setCell ⟨b, 4, none⟩ u4).setCell ⟨b, 5, none⟩ u5).setCell ⟨b, 6, none⟩ u6).heap[b]? = some (.cells #[u0, u1, u2, u3, u4, u5, u6] t (0, 0)) := by
  rw [Ba.heap_setCell_same (Ba.heap_setCell_same (Ba.heap_setCell_same (Ba.heap_setCell_same (Ba.heap_setCell_same (Ba.heap_setCell_same (Ba.heap_setCell_same h u0) u1) u2) u3) u4) u5) u6]
  rfl
/-- the result's cells, a new block, are laid last -/
theorem fin7 {w A : World} {B Z : Nat} {F F' : Nat → Prop} {st : St} (k : KF F w A) (i : Nw F' F w) (p : Pp A B F' st) (hz : w.heap.size ≤ Z) (hn : ¬ F' Z) (u0 u1 u2 u3 u4 u5 u6 : Value) :
    KF F w (((((((A.setCell ⟨Z, 0, none⟩ u0).setCell ⟨Z, 1, none⟩ u1).setCell ⟨Z, 2, none⟩ u2).setCell ⟨Z, 3, none⟩ u3).setCell ⟨Z, 4, none⟩ u4).setCell ⟨Z, 5, none⟩ u5).setCell ⟨Z, 6, none⟩ u6) ∧ ∃ F', Nw F' F w ∧ Pp (((((((A.setCell ⟨Z, 0, none⟩ u0).setCell ⟨Z, 1, none⟩ u1).setCell ⟨Z, 2, none⟩ u2).setCell ⟨Z, 3, none⟩ u3).setCell ⟨Z, 4, none⟩ u4).setCell ⟨Z, 5, none⟩ u5).setCell ⟨Z, 6, none⟩ u6) B F' st := by
  have K := (((((((KB.refl Z A).setCell 0 u0).setCell 1 u1).setCell 2 u2).setCell 3 u3).setCell 4 u4).setCell 5 u5).setCell 6 u6
  exact ⟨((((((k.setNew hz 0 u0).setNew hz 1 u1).setNew hz 2 u2).setNew hz 3 u3).setNew hz 4 u4).setNew hz 5 u5).setNew hz 6 u6, F', i, p.sm fun x hx => K.block x (p.bd x hx) (fun e => hn (e ▸ hx))⟩

theorem send_nil (x : Int) (w : World) :
    Calls Try.prog 19 #[.pointer none, .int .i64 x] w fun r w' => r = .returned (.tuple #[gv gz, .int .i64 0]) ∧ Below w.heap.size w w' := by
  go_enter Try.func19, Try.ntmps19
  go_wp2_with fail
  first
    | exact bodyPost_ret (results_row2 Try.results19 _ _ _ _ _ rfl rfl (loadVar_got (heap_new _ _) rfl)) rfl ⟨rfl, below_alloc _ _⟩
    | exact bodyPost_ret (results_row2 Try.results19 _ _ _ _ _ rfl rfl (loadVar_got (got_set (heap_new _ _) _ _ _ _ _ _ _) rfl)) rfl ⟨rfl, (((((((below_alloc _ _).setCell (Nat.le_refl _) _).setCell (Nat.le_refl _) _).setCell (Nat.le_refl _) _).setCell (Nat.le_refl _) _).setCell (Nat.le_refl _) _).setCell (Nat.le_refl _) _).setCell (Nat.le_refl _) _⟩
set_option maxHeartbeats 3200000 in
theorem send_closed (B : Nat) (F : Nat → Prop) (st : St) (x : Int) (w : World) (h : Pp w B F st) (hc : st.closed = true) :
    Calls Try.prog 19 #[.pointer (some ⟨B, 0, none⟩), .int .i64 x] w fun r w' => r = .returned (.tuple #[gv gz, .int .i64 90]) ∧ KF F w w' ∧ ∃ F', Nw F' F w ∧ Pp w' B F' st := by
  have hB := h.lt
  have P1 := hide (h.below (below_alloc w (.cells #[.bool false, .bool false, .bool false, .int .i64 0, .int .i64 0, .int .i64 0, .int .i64 0] 51)))
  have Z1 := hide (heap_new w (.cells #[.bool false, .bool false, .bool false, .int .i64 0, .int .i64 0, .int .i64 0, .int .i64 0] 51))
  have NF : Hid (¬ F w.heap.size) := fun e => Nat.lt_irrefl _ (h.bd _ e)
  have y5 : (w.alloc (.cells #[.bool false, .bool false, .bool false, .int .i64 0, .int .i64 0, .int .i64 0, .int .i64 0] 51)).cell? ⟨B, 5, none⟩ = some (.bool true) := by
    obtain ⟨R, S, Q, FS, FQ, h'⟩ := P1.out
    have := cell_of h'.hp 5
    rw [hc] at this
    exact this
  clear h hc
  go_enter Try.func19, Try.ntmps19
  go_wp2_with fail
  first
    | exact bodyPost_ret (results_row2 Try.results19 _ _ _ _ _ rfl rfl (loadVar_got Z1.out rfl)) rfl ⟨rfl, KF.of (below_alloc _ _), F, Nw.refl _ _, P1.out⟩
    | exact bodyPost_ret (results_row2 Try.results19 _ _ _ _ _ rfl rfl (loadVar_got (got_set Z1.out _ _ _ _ _ _ _) rfl)) rfl ⟨rfl, fin7 (KF.of (below_alloc _ _)) (Nw.refl _ _) P1.out (Nat.le_refl _) NF.out _ _ _ _ _ _ _⟩
end Pi
end Go.Proofs.Ytipimagajnocjaa
