/- Package ring: At, Push, Pop, Turn, over this seat's program. -/
import Derived.Test.YtdcmlimglajpkaaGa
import Derived.Deep.RegionWith
namespace Go.Proofs.Ytdcmlimglajpkaa
open Go.ChangeShapes Go.WideShapes Go.ChangeAt Go.RowKit
namespace Rn
open Ba

theorem at_nil (i : Int) (w : World) :
    Calls Try.prog 73 #[.pointer none, .int .i64 i] w fun r w' => r = .returned (.tuple #[.int .i64 0, .int .i64 6]) ∧ w' = w := by
  cases h1 : decide (i < 0)
  · have d2 : decide (0 ≤ i) = true := by simp at h1 ⊢; omega
    go_enter Try.func73, Try.ntmps73
    go_wp2_with fail
    refine (len_nil _).mono ?_
    rintro r w1 ⟨rfl, rfl⟩
    go_wp2_with fail
    go_ret2
    exact ⟨rfl, rfl⟩
  · go_enter Try.func73, Try.ntmps73
    go_wp2_with fail
    go_ret2
    exact ⟨rfl, rfl⟩
theorem at_out (R s : Nat) (l : List Int) (i : Int) (w : World) (h : Rg w R s l) (hi : i < 0 ∨ (l.length : Int) ≤ i) :
    Calls Try.prog 73 #[.pointer (some ⟨R, 0, none⟩), .int .i64 i] w fun r w' => r = .returned (.tuple #[.int .i64 0, .int .i64 6]) ∧ w' = w := by
  cases h1 : decide (i < 0)
  · have d2 : decide ((l.length : Int) ≤ i) = true := by simp at h1 ⊢; omega
    have H := hide h
    clear h hi
    go_enter Try.func73, Try.ntmps73
    go_wp2_with fail
    refine (len_any R s l _ H.out).mono ?_
    rintro r w1 ⟨rfl, rfl⟩
    go_wp2_with fail
    go_ret2
    exact ⟨rfl, rfl⟩
  · clear hi
    go_enter Try.func73, Try.ntmps73
    go_wp2_with fail
    go_ret2
    exact ⟨rfl, rfl⟩
set_option maxHeartbeats 1600000 in
theorem at_in (R s : Nat) (l : List Int) (i : Nat) (w : World) (h : Rg w R s l) (hi : i < l.length) :
    Calls Try.prog 73 #[.pointer (some ⟨R, 0, none⟩), .int .i64 (i : Int)] w fun r w' => r = .returned (.tuple #[.int .i64 (nth l i), .int .i64 0]) ∧ Below w.heap.size w w' := by
  have d1 : decide ((i : Int) < 0) = false := decide_eq_false (by omega)
  have d2 : decide ((l.length : Int) ≤ (i : Int)) = false := decide_eq_false (by omega)
  have H := hide h
  obtain ⟨v, f, h1, h2, h3, h4, h5⟩ := h
  have PL := hide fun n => place_any R f i (w.drewN n) h5.fst h1 (by omega)
  have hq : (f + i) % 4 < 4 := Nat.mod_lt _ (by decide)
  have hc := h5.cell _ hq
  have HV := hide (h4 i hi)
  clear h4 h5
  generalize (f + i) % 4 = q at *
  rw [← HV.out]
  go_enter Try.func73, Try.ntmps73
  go_wp2_with fail
  refine (len_any R s l _ H.out).mono ?_
  rintro r w1 ⟨rfl, rfl⟩
  go_wp2_with fail
  go_quiet ((go_at_call 65; exact Calls.quiet_of_same (PL.out _)))
  go_wp2_with fail
  go_ret2
  exact ⟨rfl, bdrew _ _⟩

theorem push_nil (x : Int) (w : World) :
    Calls Try.prog 46 #[.pointer none, .int .i64 x] w fun r w' => r = .returned (.int .i64 5) ∧ w' = w := by
  go_enter Try.func46, Try.ntmps46
  go_wp2_with fail
  refine (len_nil _).mono ?_
  rintro r w1 ⟨rfl, rfl⟩
  go_wp2_with fail
  refine (cap_nil _).mono ?_
  rintro r w1 ⟨rfl, rfl⟩
  go_wp2_with fail
  go_ret
  exact ⟨rfl, rfl⟩
theorem push_full (R s : Nat) (l : List Int) (x : Int) (w : World) (h : Rg w R s l) (hl : l.length = s) :
    Calls Try.prog 46 #[.pointer (some ⟨R, 0, none⟩), .int .i64 x] w fun r w' => r = .returned (.int .i64 5) ∧ w' = w := by
  have H := hide h
  have d1 : (((l.length : Nat) : Int) == (s : Int)) = true := by rw [beq_iff_eq]; omega
  clear h hl
  go_enter Try.func46, Try.ntmps46
  go_wp2_with fail
  refine (len_any R s l _ H.out).mono ?_
  rintro r w1 ⟨rfl, rfl⟩
  go_wp2_with fail
  refine (cap_any R s l _ H.out).mono ?_
  rintro r w1 ⟨rfl, rfl⟩
  go_wp2_with fail
  go_ret
  exact ⟨rfl, rfl⟩
theorem Rg.pushed {w1 : World} {R s f : Nat} {v : Nat → Int} {l : List Int} (x : Int) (hf : f < 4) (hl : l.length < s) (hs : s ≤ 4) (hv : ∀ i, i < l.length → v ((f + i) % 4) = nth l i) (h : Cl w1 R (up v ((f + l.length) % 4) x) f (l.length + 1) s) : Rg w1 R s (l ++ [x]) := by
  refine ⟨_, f, hf, by simp; omega, hs, ?_, by simpa using h⟩
  intro i hi
  simp at hi
  by_cases e : i = l.length
  · subst e
    rw [up_same]
    simp [nth]
  · rw [up_other _ _ _ _ (by omega), hv i (by omega)]
    rw [nth_lt l i (by omega), nth_lt _ i (by simp; omega)]
    rw [List.getElem_append_left]
set_option maxHeartbeats 1600000 in
theorem push_ok (R s : Nat) (l : List Int) (x : Int) (w : World) (h : Rg w R s l) (hl : l.length < s) :
    Calls Try.prog 46 #[.pointer (some ⟨R, 0, none⟩), .int .i64 x] w fun r w' => r = .returned (.int .i64 0) ∧ Rg w' R s (l ++ [x]) ∧ KB R w w' := by
  have H := hide h
  obtain ⟨v, f, h1, h2, h3, h4, h5⟩ := h
  have HV := hide h4
  have HC := hide h5
  have hn := h5.cnt
  have hq : (f + l.length) % 4 < 4 := Nat.mod_lt _ (by decide)
  have hcq := h5.cell _ hq
  have hfr := frozen_of h5 ((f + l.length) % 4)
  have hf5 := frozen_of h5 5
  have PL := hide (place_any R f l.length w.drew h5.fst h1 (by omega))
  have d1 : (((l.length : Nat) : Int) == (s : Int)) = false := by rw [beq_eq_false_iff_ne]; omega
  have RS := hide fun (w1 : World) (hc : Cl w1 R (up v ((f + l.length) % 4) x) f (l.length + 1) s) => Rg.pushed x h1 hl h3 h4 hc
  clear h4 h5
  generalize (f + l.length) % 4 = q at *
  go_enter Try.func46, Try.ntmps46
  go_wp2_with fail
  refine (len_any R s l _ H.out).mono ?_
  rintro r w1 ⟨rfl, rfl⟩
  go_wp2_with fail
  refine (cap_any R s l _ H.out).mono ?_
  rintro r w1 ⟨rfl, rfl⟩
  go_wp2_with fail
  go_region_with (go_at_call 65; refine PL.out.mono ?_; rintro r w2 ⟨rfl, rfl⟩)
  all_goals
    go_wp2_with fail
    go_ret
    exact ⟨rfl, RS.out _ ((HC.out.val q hq x).setCnt (l.length + 1) _ (by omega)), (((KB.refl R _).setCell q _).setCell 5 _).trans (KB.of (bdrew1 _))⟩

theorem Rg.popped {w1 : World} {R s f : Nat} {v : Nat → Int} {x : Int} {l : List Int} (hl : l.length + 1 ≤ s) (hs : s ≤ 4) (hv : ∀ i, i < l.length + 1 → v ((f + i) % 4) = nth (x :: l) i) (h : Cl w1 R (up v f 0) ((f + 1) % 4) l.length s) : Rg w1 R s l := by
  refine ⟨_, _, Nat.mod_lt _ (by decide), by omega, hs, ?_, h⟩
  intro i hi
  rw [up_other _ _ _ _ (by omega)]
  have := hv (i + 1) (by omega)
  rw [show ((f + 1) % 4 + i) % 4 = (f + (i + 1)) % 4 by omega, this]
  rfl
theorem pop_nil (w : World) :
    Calls Try.prog 71 #[.pointer none] w fun r w' => r = .returned (.tuple #[.int .i64 0, .int .i64 6]) ∧ w' = w := by
  go_enter Try.func71, Try.ntmps71
  go_wp2_with fail
  refine (at_nil 0 _).mono ?_
  rintro r w1 ⟨rfl, rfl⟩
  go_wp2_with fail
  go_ret2
  exact ⟨rfl, rfl⟩
theorem pop_none (R s : Nat) (w : World) (h : Rg w R s []) :
    Calls Try.prog 71 #[.pointer (some ⟨R, 0, none⟩)] w fun r w' => r = .returned (.tuple #[.int .i64 0, .int .i64 6]) ∧ w' = w := by
  have H := hide h
  clear h
  go_enter Try.func71, Try.ntmps71
  go_wp2_with fail
  refine (at_out R s [] 0 _ H.out (.inr (by simp))).mono ?_
  rintro r w1 ⟨rfl, rfl⟩
  go_wp2_with fail
  go_ret2
  exact ⟨rfl, rfl⟩
set_option maxHeartbeats 1600000 in
theorem pop_some (R s : Nat) (x : Int) (l : List Int) (w : World) (h : Rg w R s (x :: l)) :
    Calls Try.prog 71 #[.pointer (some ⟨R, 0, none⟩)] w fun r w' => r = .returned (.tuple #[.int .i64 x, .int .i64 0]) ∧ Rg w' R s l ∧ KB R w w' := by
  have AT := hide (at_in R s (x :: l) 0 w h (by simp))
  obtain ⟨v, f, h1, h2, h3, h4, h5⟩ := h
  have hl : l.length + 1 ≤ s := by simpa using h2
  have HC : Hid (Cl w R v f (l.length + 1) s) := by rw [List.length_cons] at h5; exact h5
  have RS := hide fun (w1 : World) (hc : Cl w1 R (up v f 0) ((f + 1) % 4) l.length s) => Rg.popped (x := x) hl h3 (by simpa using h4) hc
  clear h4 h5 h2
  go_enter Try.func71, Try.ntmps71
  go_wp2_with fail
  refine AT.out.mono ?_
  rintro r w1 ⟨rfl, b1⟩
  have B1 := hide b1
  have C1 : Hid (Cl w1 R v f (l.length + 1) s) := heap_below HC.out b1
  have y4 := C1.out.fst
  have y5 := C1.out.cnt
  have yf := C1.out.cell f h1
  have z4 := frozen_of C1.out 4
  have z5 := frozen_of C1.out 5
  have zf := frozen_of C1.out f
  have PL := hide fun (u : World) (hu : u.cell? ⟨R, 4, none⟩ = some (.int .i64 (f : Int))) => place_any R f 1 u hu h1 (by decide)
  clear b1
  generalize (f + 1) % 4 = q at *
  simp only [show nth (x :: l) 0 = x from rfl]
  go_wp2_with fail
  go_region
  all_goals
    go_wp2_with fail
    refine (PL.out _ (by have := (C1.out.val f h1 0).fst; simpa using this)).mono ?_
    rintro r w2 ⟨rfl, rfl⟩
    go_wp2_with fail
    go_ret2
    exact ⟨rfl, RS.out _ (((C1.out.val f h1 0).setFst q).setCnt l.length _ (by omega)), ((((KB.of B1.out).setCell f _).setCell 4 _).setCell 5 _).trans (KB.of (bdrew1 _))⟩

/-- what a ring of capacity s answers, and then holds -/
def pe (s : Nat) (l : List Int) : Int := if l.length < s then 0 else 5
def pl (s : Nat) (l : List Int) (x : Int) : List Int := if l.length < s then l ++ [x] else l
def oe (l : List Int) : Int := if l.length = 0 then 6 else 0
def tl (l : List Int) (x : Int) : List Int := if l.length = 0 then l else l.tail ++ [x]
theorem Rg.le {w : World} {R s : Nat} {l : List Int} (h : Rg w R s l) : l.length ≤ s := by
  obtain ⟨v, f, h1, h2, h3, h4, h5⟩ := h
  exact h2
theorem Rg.le4 {w : World} {R s : Nat} {l : List Int} (h : Rg w R s l) : s ≤ 4 := by
  obtain ⟨v, f, h1, h2, h3, h4, h5⟩ := h
  exact h3
theorem push_any (R s : Nat) (l : List Int) (x : Int) (w : World) (h : Rg w R s l) :
    Calls Try.prog 46 #[.pointer (some ⟨R, 0, none⟩), .int .i64 x] w fun r w' => r = .returned (.int .i64 (pe s l)) ∧ Rg w' R s (pl s l x) ∧ KB R w w' := by
  unfold pe pl
  by_cases hl : l.length < s
  · simp only [if_pos hl]
    exact push_ok R s l x w h hl
  · simp only [if_neg hl]
    refine (push_full R s l x w h (by have := h.le; omega)).mono ?_
    rintro r w1 ⟨rfl, rfl⟩
    exact ⟨rfl, h, KB.refl _ _⟩
theorem pop_any (R s : Nat) (l : List Int) (w : World) (h : Rg w R s l) :
    Calls Try.prog 71 #[.pointer (some ⟨R, 0, none⟩)] w fun r w' => r = .returned (.tuple #[.int .i64 (nth l 0), .int .i64 (oe l)]) ∧ Rg w' R s l.tail ∧ KB R w w' := by
  cases l with
  | nil =>
    refine (pop_none R s w h).mono ?_
    rintro r w1 ⟨rfl, rfl⟩
    exact ⟨rfl, h, KB.refl _ _⟩
  | cons x l =>
    refine (pop_some R s x l w h).mono ?_
    rintro r w1 ⟨rfl, h1, h2⟩
    exact ⟨rfl, h1, h2⟩
def atv (l : List Int) (i : Int) : Int := if i < 0 ∨ (l.length : Int) ≤ i then 0 else nth l i.toNat
def ate (l : List Int) (i : Int) : Int := if i < 0 ∨ (l.length : Int) ≤ i then 6 else 0
theorem at_any (R s : Nat) (l : List Int) (i : Int) (w : World) (h : Rg w R s l) :
    Calls Try.prog 73 #[.pointer (some ⟨R, 0, none⟩), .int .i64 i] w fun r w' => r = .returned (.tuple #[.int .i64 (atv l i), .int .i64 (ate l i)]) ∧ Below w.heap.size w w' := by
  unfold atv ate
  by_cases hi : i < 0 ∨ (l.length : Int) ≤ i
  · simp only [if_pos hi]
    refine (at_out R s l i w h hi).mono ?_
    rintro r w1 ⟨rfl, rfl⟩
    exact ⟨rfl, Below.refl _ _⟩
  · simp only [if_neg hi]
    obtain ⟨n, rfl⟩ := Int.eq_ofNat_of_zero_le (show 0 ≤ i by omega)
    exact at_in R s l n w h (by omega)
theorem turn_nil (x : Int) (w : World) :
    Calls Try.prog 72 #[.pointer none, .int .i64 x] w fun r w' => r = .returned (.tuple #[.int .i64 0, .int .i64 6]) ∧ w' = w := by
  go_enter Try.func72, Try.ntmps72
  go_wp2_with fail
  refine (pop_nil _).mono ?_
  rintro r w1 ⟨rfl, rfl⟩
  go_wp2_with fail
  go_ret2
  exact ⟨rfl, rfl⟩
theorem turn_any (R s : Nat) (l : List Int) (x : Int) (w : World) (h : Rg w R s l) :
    Calls Try.prog 72 #[.pointer (some ⟨R, 0, none⟩), .int .i64 x] w fun r w' => r = .returned (.tuple #[.int .i64 (nth l 0), .int .i64 (oe l)]) ∧ Rg w' R s (tl l x) ∧ KB R w w' := by
  cases l with
  | nil =>
    have H := hide h
    clear h
    go_enter Try.func72, Try.ntmps72
    go_wp2_with fail
    refine (pop_none R s _ H.out).mono ?_
    rintro r w1 ⟨rfl, rfl⟩
    go_wp2_with fail
    go_ret2
    exact ⟨rfl, H.out, KB.refl _ _⟩
  | cons y l =>
    have hle := h.le
    rw [List.length_cons] at hle
    have H := hide h
    clear h
    go_enter Try.func72, Try.ntmps72
    go_wp2_with fail
    refine (pop_some R s y l _ H.out).mono ?_
    rintro r w1 ⟨rfl, g1, k1⟩
    have G1 := hide g1
    have K1 := hide k1
    clear g1 k1
    go_wp2_with fail
    refine (push_ok R s l x _ G1.out (by omega)).mono ?_
    rintro r w2 ⟨rfl, g2, k2⟩
    have G2 := hide g2
    have K2 := hide k2
    clear g2 k2
    go_wp2_with fail
    go_ret2
    exact ⟨rfl, G2.out, K1.out.trans K2.out⟩
end Rn
end Go.Proofs.Ytdcmlimglajpkaa
