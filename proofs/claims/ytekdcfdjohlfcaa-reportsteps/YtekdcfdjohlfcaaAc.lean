/- Package cell, over this seat's program: where a tid's read stands (BinarySearchFunc, find). -/
import Derived.Test.YtekdcfdjohlfcaaAb
import Derived.Test.YtekdcfdjohlfcaaRg
namespace Go.Proofs.Ytekdcfdjohlfcaa
open Go.ChangeShapes Go.WideShapes Go.ChangeAt Go.RowKit
namespace Ce
open Ck
open Ba (KF Bd Nw hide)
open Ep (tidOf clkOf ownB)

theorem nan_any (x : Int) (w : World) : Calls Try.prog 97 #[.int .i64 x] w fun r w' => r = .returned (.bool false) ∧ w' = w := by
  go_enter Try.func97, Try.ntmps97
  go_wp2_with fail
  go_ret
  exact ⟨by simp, rfl⟩
/-- less, equal, more -/
def cmpI (x y : Int) : Int := if x < y then -1 else if y < x then 1 else 0
theorem cmp_any (x y : Int) (w : World) : Calls Try.prog 88 #[.int .i64 x, .int .i64 y] w fun r w' => r = .returned (.int .i64 (cmpI x y)) ∧ w' = w := by
  by_cases h1 : x < y
  · have e : Hid (cmpI x y = -1) := by show cmpI x y = -1; simp [cmpI, h1]
    go_enter Try.func88, Try.ntmps88
    go_wp2_with (go_at_call 97; refine (nan_any _ _).mono ?_; rintro r w' ⟨rfl, rfl⟩)
    go_ret
    exact ⟨ret_int e.out.symm, rfl⟩
  by_cases h2 : y < x
  · have e : Hid (cmpI x y = 1) := by show cmpI x y = 1; simp [cmpI, h1, h2]
    go_enter Try.func88, Try.ntmps88
    go_wp2_with (go_at_call 97; refine (nan_any _ _).mono ?_; rintro r w' ⟨rfl, rfl⟩)
    go_ret
    exact ⟨ret_int e.out.symm, rfl⟩
  · have e : Hid (cmpI x y = 0) := by show cmpI x y = 0; simp [cmpI, h1, h2]
    go_enter Try.func88, Try.ntmps88
    go_wp2_with (go_at_call 97; refine (nan_any _ _).mono ?_; rintro r w' ⟨rfl, rfl⟩)
    go_ret
    exact ⟨ret_int e.out.symm, rfl⟩
theorem fd1_any (e t : Int) (a0 : 0 ≤ e) (a1 : e ≤ 18446744073709551615) (w : World) : Calls Try.prog 87 #[.int .u64 e, .int .i64 t] w fun r w' => r = .returned (.int .i64 (cmpI (tidOf e) t)) ∧ w' = w := by
  go_enter Try.func87, Try.ntmps87
  go_wp2_with fail
  refine (Ep.tid_any e a0 a1 _).mono ?_
  rintro r w1 ⟨rfl, e1⟩
  obtain rfl := e1.symm
  go_wp2_with fail
  refine (cmp_any _ _ _).mono ?_
  rintro r w1 ⟨rfl, e1⟩
  obtain rfl := e1.symm
  go_wp2_with fail
  go_ret
  exact ⟨rfl, rfl⟩

/-- the tids rise -/
def Srt (l : List Int) : Prop := ∀ i j, i < j → j < l.length → tidOf (nth l i) < tidOf (nth l j)
/-- where a tid's stands, or is to stand -/
def pos (l : List Int) (t : Int) : Nat := (l.takeWhile fun e => decide (tidOf e < t)).length
def has (l : List Int) (t : Int) : Bool := l.any fun e => tidOf e == t
theorem tw_len (p : Int → Bool) : ∀ (l : List Int) (i : Nat), i ≤ l.length → (∀ k, k < i → p (nth l k) = true) → (i < l.length → p (nth l i) = false) → (l.takeWhile p).length = i
  | [], i, h, _, _ => by simp at h; simp [h]
  | x :: r, 0, _, _, h => by
    have := h (by simp)
    rw [nth_cons_zero] at this
    simp [this]
  | x :: r, i + 1, hl, h1, h2 => by
    have hx := h1 0 (by omega)
    rw [nth_cons_zero] at hx
    rw [List.takeWhile_cons, if_pos hx, List.length_cons, tw_len p r i (by simpa using hl) (fun k hk => by have := h1 (k + 1) (by omega); rwa [nth_cons_succ] at this) (fun hi => by have := h2 (by simpa using hi); rwa [nth_cons_succ] at this)]
theorem pos_is {l : List Int} {t : Int} {i : Nat} (hi : i ≤ l.length) (h1 : ∀ k, k < i → tidOf (nth l k) < t) (h2 : ∀ k, i ≤ k → k < l.length → t ≤ tidOf (nth l k)) : pos l t = i :=
  tw_len _ l i hi (fun k hk => by simpa using h1 k hk) (fun hl => by simpa using h2 i (Nat.le_refl _) hl)
theorem has_yes {l : List Int} {t : Int} {i : Nat} (hi : i < l.length) (h : tidOf (nth l i) = t) : has l t = true := by
  unfold has
  rw [List.any_eq_true]
  exact ⟨_, List.getElem_mem hi, by rw [nth_lt l i hi] at h; simpa using h⟩
theorem has_no {l : List Int} {t : Int} (h : ∀ k, k < l.length → tidOf (nth l k) ≠ t) : has l t = false := by
  unfold has
  rw [List.any_eq_false]
  intro x hx
  obtain ⟨k, hk, rfl⟩ := List.getElem_of_mem hx
  have := h k hk
  rw [nth_lt l k hk] at this
  simpa using this

theorem cmp_lt {x y : Int} : cmpI x y < 0 ↔ x < y := by unfold cmpI; split <;> (try split) <;> omega
theorem cmp_eq {x y : Int} : cmpI x y = 0 ↔ x = y := by unfold cmpI; split <;> (try split) <;> omega

set_option maxRecDepth 100000 in
set_option maxHeartbeats 3200000 in
theorem search_any (v : Value) (l : List Int) (t : Int) (w : World) (ho : w.ownsRow 0 61 1 v l.length (us l)) (hu : U64 l) (hs : Srt l) (hl : l.length ≤ 100000) :
    Calls Try.prog 86 #[v, .int .i64 t, .func (.func 87) #[] #[]] w fun r w' => r = .returned (.tuple #[.int .i64 (pos l t : Nat), .bool (has l t)]) ∧ w' = w := by
  obtain ⟨oa, c, rfl⟩ := own_sl ho
  have HO := hide ho
  have HU := hide hu
  have HS := hide hs
  clear ho hu hs
  obtain ⟨P, hP⟩ : ∃ P, pos l t = P := ⟨_, rfl⟩
  obtain ⟨B, hB⟩ : ∃ B, has l t = B := ⟨_, rfl⟩
  have HP := hide hP
  have HB := hide hB
  rw [hP, hB]
  clear hP hB
  go_enter Try.func86, Try.ntmps86
  go_wp2_with fail
  go_loop [9, 10] (fun a b => ∃ lo hi : Nat, a = .int .i64 (lo : Int) ∧ b = .int .i64 (hi : Int) ∧ lo ≤ hi ∧ hi ≤ l.length ∧ Hid ((∀ k, k < lo → tidOf (nth l k) < t) ∧ ∀ k, hi ≤ k → k < l.length → t ≤ tidOf (nth l k))) (fun a b => (intOf b).toNat - (intOf a).toNat)
  case atStart => exact ⟨0, l.length, rfl, rfl, Nat.zero_le _, Nat.le_refl _, ⟨fun k hk => absurd hk (Nat.not_lt_zero _), fun k h1 h2 => by omega⟩⟩
  case round =>
    obtain ⟨lo, hi, rfl, rfl, hlh, hin, I⟩ := hrel
    by_cases hlt : lo < hi
    · obtain ⟨m, hm⟩ : ∃ m : Nat, m = (lo + hi) / 2 := ⟨_, rfl⟩
      have hm1 : lo ≤ m ∧ m < hi := by omega
      have hml : m < l.length := by omega
      obtain ⟨g, rfl, c0, -⟩ := own_cell HO.out hml
      have hmi : ((lo : Int) + (hi : Int)) / 2 = (m : Int) := by omega
      have hmn : (lo + hi) / 2 = m := hm.symm
      have c1 := c0
      rw [hm] at c1
      have CL := hide (fd1_any (nth l m) t (HU.out.nth m).1 (HU.out.nth m).2 w)
      have hlt' : (lo : Int) < (hi : Int) := by omega
      clear hm
      by_cases hy : cmpI (tidOf (nth l m)) t < 0
      · have hyT := hide (cmp_lt.1 hy)
        generalize cmpI (tidOf (nth l m)) t = y at *
        go_wp2_with fail
        refine CL.out.mono ?_
        rintro r w1 ⟨rfl, e1⟩
        obtain rfl := e1.symm
        go_wp2_with fail
        go_round
        case rel => exact ⟨m + 1, hi, by go_num, rfl, by omega, hin, ⟨fun k hk => by
            by_cases e : k = m
            · rw [e]; exact hyT.out
            · have := HS.out k m (by omega) hml; have := hyT.out; omega, I.out.2⟩⟩
        case measure => simp [intOf]; omega
      · have hyT : Hid (t ≤ tidOf (nth l m)) := by
          show t ≤ tidOf (nth l m)
          have : ¬ tidOf (nth l m) < t := fun h => hy (cmp_lt.2 h)
          omega
        generalize cmpI (tidOf (nth l m)) t = y at *
        go_wp2_with fail
        refine CL.out.mono ?_
        rintro r w1 ⟨rfl, e1⟩
        obtain rfl := e1.symm
        go_wp2_with fail
        go_round
        case rel => exact ⟨lo, m, rfl, rfl, by omega, by omega, ⟨I.out.1, fun k hk hkl => by
            by_cases e : k = m
            · rw [e]; exact hyT.out
            · have := HS.out m k (by omega) hkl; have := hyT.out; omega⟩⟩
        case measure => simp [intOf]; omega
    · obtain rfl : hi = lo := by omega
      have hP : P = hi := HP.out.symm.trans (pos_is hin I.out.1 I.out.2)
      subst hP
      by_cases hn : P < l.length
      · have hn' : (P : Int) < (l.length : Int) := by omega
        obtain ⟨g, rfl, c0, -⟩ := own_cell HO.out hn
        have CL := hide (fd1_any (nth l P) t (HU.out.nth P).1 (HU.out.nth P).2 w)
        by_cases hy : cmpI (tidOf (nth l P)) t = 0
        · have hB : B = true := HB.out.symm.trans (has_yes hn (cmp_eq.1 hy))
          subst hB
          rw [hy] at CL
          clear hy
          go_wp2_with fail
          refine CL.out.mono ?_
          rintro r w1 ⟨rfl, e1⟩
          obtain rfl := e1.symm
          go_wp2_with fail
          go_ret2
          exact ⟨rfl, rfl⟩
        · have hB : B = false := HB.out.symm.trans (has_no fun k hk => by
            rcases Nat.lt_trichotomy k P with q | q | q
            · have := I.out.1 k q; omega
            · rw [q]; exact fun e => hy (cmp_eq.2 e)
            · have := HS.out P k q hk
              have := I.out.2 P (Nat.le_refl _) hn
              omega)
          subst hB
          have hyb : (cmpI (tidOf (nth l P)) t == 0) = false := beq_eq_false_iff_ne.2 hy
          clear hy
          generalize cmpI (tidOf (nth l P)) t = y at *
          go_wp2_with fail
          refine CL.out.mono ?_
          rintro r w1 ⟨rfl, e1⟩
          obtain rfl := e1.symm
          go_wp2_with fail
          go_ret2
          exact ⟨rfl, rfl⟩
      · have hn' : ¬ ((P : Int) < (l.length : Int)) := by omega
        have hB : B = false := HB.out.symm.trans (has_no fun k hk => by have := I.out.1 k (by omega); omega)
        subst hB
        go_wp2_with fail
        go_ret2
        exact ⟨rfl, rfl⟩
end Ce
end Go.Proofs.Ytekdcfdjohlfcaa
