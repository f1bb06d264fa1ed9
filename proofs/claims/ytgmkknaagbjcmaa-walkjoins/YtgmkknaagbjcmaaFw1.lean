/- Layer 27 (walk), over this seat's program: events; rest, Turn, direction. -/
import Derived.Test.YtgmkknaagbjcmaaFl2
import Derived.Deep.RegionHeld3
namespace Go.Proofs.Ytgmkknaagbjcmaa
open Go.ChangeShapes Go.WideShapes Go.ChangeAt Go.RowKit
namespace Fw
open Ba Fl

/-- an event: kind, goroutine, channel, case, value, mate, Send, OK -/
structure Ev where
  k : Int
  g : Int
  c : Int
  a : Int
  v : Int
  m : Int
  s : Bool
  o : Bool
def evc (e : Ev) : Array Value := #[.int .i64 e.k, .int .i64 e.g, .int .i64 e.c, .int .i64 e.a, .int .i64 e.v, .int .i64 e.m, .bool e.s, .bool e.o]
def evv (e : Ev) : Value := .agg (evc e)
theorem evc_some (e : Ev) (j : Nat) (h : j < 8) : ∃ v, (evc e)[j]? = some v := ⟨_, Array.getElem?_eq_getElem h⟩
/-- events lie in memory -/
def EsAt (w : World) (oa : Option Addr) (l : List Ev) : Prop :=
  ∀ k e, l[k]? = some e → ∃ b off, oa = some ⟨b, off, none⟩ ∧ ∀ j, j < 8 → w.cell? ⟨b, off + k * 8 + j, none⟩ = (evc e)[j]?
theorem EsAt.nil (w : World) (oa : Option Addr) : EsAt w oa [] := fun _ _ h => by simp at h
theorem EsAt.below {w w' : World} {oa : Option Addr} {l : List Ev} (h : EsAt w oa l) (hb : Below w.heap.size w w') : EsAt w' oa l := by
  intro k e hk
  obtain ⟨b, off, he, hc⟩ := h k e hk
  refine ⟨b, off, he, fun j hj => ?_⟩
  obtain ⟨v, hv⟩ := evc_some e j hj
  have := hc j hj
  rw [hv] at this ⊢
  exact (hb.cell (World.block_lt_of_cell? w _ this)).trans this
theorem EsAt.read {w : World} {b off : Nat} {l : List Ev} {k : Nat} {e : Ev} (h : EsAt w (some ⟨b, off, none⟩) l) (hk : l[k]? = some e) : w.cell? ⟨b, off + k * 8, none⟩ = some (.int .i64 e.k) ∧ w.cell? ⟨b, off + k * 8 + 1, none⟩ = some (.int .i64 e.g) ∧ w.cell? ⟨b, off + k * 8 + 2, none⟩ = some (.int .i64 e.c) ∧ w.cell? ⟨b, off + k * 8 + 3, none⟩ = some (.int .i64 e.a) ∧ w.cell? ⟨b, off + k * 8 + 4, none⟩ = some (.int .i64 e.v) ∧ w.cell? ⟨b, off + k * 8 + 5, none⟩ = some (.int .i64 e.m) ∧ w.cell? ⟨b, off + k * 8 + 6, none⟩ = some (.bool e.s) ∧ w.cell? ⟨b, off + k * 8 + 7, none⟩ = some (.bool e.o) := by
  obtain ⟨b', off', he, hc⟩ := h k e hk
  cases he
  exact ⟨hc 0 (by decide), hc 1 (by decide), hc 2 (by decide), hc 3 (by decide), hc 4 (by decide), hc 5 (by decide), hc 6 (by decide), hc 7 (by decide)⟩

theorem tm4 (k : Int) : (k.tmod 4 + 4).tmod 4 = k % 4 := by
  have h1 := Int.mul_tdiv_add_tmod k 4
  have h2 := Int.tmod_lt_of_pos k (show (0 : Int) < 4 by decide)
  have h3 : -4 < k.tmod 4 := by
    have := Int.tmod_lt_of_pos (-k) (show (0 : Int) < 4 by decide)
    rw [Int.neg_tmod] at this
    omega
  rw [Int.tmod_eq_emod_of_nonneg (by omega)]
  omega
theorem tm_bd (k : Int) : -4 < k.tmod 4 ∧ k.tmod 4 < 4 := by
  have h2 := Int.tmod_lt_of_pos k (show (0 : Int) < 4 by decide)
  have := Int.tmod_lt_of_pos (-k) (show (0 : Int) < 4 by decide)
  rw [Int.neg_tmod] at this
  omega
theorem wrap_id {n : Int} (h1 : -9223372036854775808 ≤ n) (h2 : n < 9223372036854775808) : IntKind.i64.wrap n = n := by
  simp [IntKind.wrap, IntKind.signed, IntKind.bits]; omega
theorem rest_any (k : Int) (w : World) :
    Calls Try.prog 23 #[.int .i64 k] w fun r w' => r = .returned (.int .i64 (k % 4)) ∧ w' = w := by
  have h := tm4 k
  have hb := tm_bd k
  obtain ⟨m, hm⟩ : ∃ m, k.tmod 4 = m := ⟨_, rfl⟩
  rw [hm] at h hb
  obtain ⟨n, hn⟩ : ∃ n, k % 4 = n := ⟨_, rfl⟩
  rw [hn] at h ⊢
  have hn4 : 0 ≤ n ∧ n < 4 := by omega
  have w1 : IntKind.i64.wrap m = m := wrap_id (by omega) (by omega)
  have w2 : IntKind.i64.wrap (m + 4) = m + 4 := wrap_id (by omega) (by omega)
  have w3 : IntKind.i64.wrap n = n := wrap_id (by omega) (by omega)
  clear hn
  go_enter Try.func23, Try.ntmps23
  go_wp2_with fail
  go_ret
  exact ⟨rfl, rfl⟩
/-- the turn by quarters, in words -/
def tw (t : Int) : Nat × Nat := if t = 1 then (0, 4607182418800017408) else if t = 2 then (13830554455654793216, 0) else if t = 3 then (0, 13830554455654793216) else (4607182418800017408, 0)
/-- the direction, in whole numbers -/
def dx (t : Int) : Int := if t = 1 then 0 else if t = 2 then -1 else if t = 3 then 0 else 1
def dy (t : Int) : Int := if t = 1 then 1 else if t = 2 then 0 else if t = 3 then -1 else 0
theorem tw_hi (t : Int) : Hi (tw t).1 (dx t) ∧ Hi (tw t).2 (dy t) := by
  unfold tw dx dy
  by_cases h1 : t = 1
  · simp only [h1, if_true]; exact ⟨Hi.zero, Hi.one⟩
  · by_cases h2 : t = 2
    · subst h2; simp only [h1, if_true, if_false]; exact ⟨Hi.mone, Hi.zero⟩
    · by_cases h3 : t = 3
      · subst h3; simp only [h1, h2, if_true, if_false]; exact ⟨Hi.zero, Hi.mone⟩
      · simp only [h1, h2, h3, if_false]; exact ⟨Hi.one, Hi.zero⟩
theorem turn_any (k : Int) (w : World) :
    Calls Try.prog 13 #[.int .i64 k] w fun r w' => r = .returned (.complex .f64 (tw (k % 4)).1 (tw (k % 4)).2) ∧ w' = w := by
  have R := hide (rest_any k w)
  obtain ⟨n, hn⟩ : ∃ n, k % 4 = n := ⟨_, rfl⟩
  have hn4 : n = 0 ∨ n = 1 ∨ n = 2 ∨ n = 3 := by omega
  rw [hn] at R ⊢
  clear hn
  rcases hn4 with rfl | rfl | rfl | rfl
  all_goals
    go_enter Try.func13, Try.ntmps13
    go_wp2_with fail
    refine R.out.mono ?_
    rintro r w1 ⟨rfl, rfl⟩
    go_wp2_with fail
    go_ret
    exact ⟨rfl, rfl⟩
/-- a walker -/
def WA (w : World) (P : Nat) (a b : Nat) (t : Int) : Prop := w.heap[P]? = some (.cells #[.complex .f64 a b, .int .i64 t] 56 (0, 0))
theorem dir_any (P a b : Nat) (t : Int) (w : World) (h : WA w P a b t) :
    Calls Try.prog 22 #[.pointer (some ⟨P, 0, none⟩)] w fun r w' => r = .returned (.complex .f64 (tw (t % 4)).1 (tw (t % 4)).2) ∧ w' = w := by
  have c1 : w.cell? ⟨P, 1, none⟩ = some (.int .i64 t) := cell_of h 1
  go_enter Try.func22, Try.ntmps22
  go_wp2_with fail
  refine (turn_any t _).mono ?_
  rintro r w1 ⟨rfl, rfl⟩
  go_wp2_with fail
  go_ret
  exact ⟨rfl, rfl⟩
end Fw
end Go.Proofs.Ytgmkknaagbjcmaa
