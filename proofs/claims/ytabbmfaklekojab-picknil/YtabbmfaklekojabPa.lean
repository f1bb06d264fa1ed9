/- Package pick: allBetween, take, over this seat's program. -/
import Derived.Test.YtabbmfaklekojabBk
namespace Go.Proofs.Ytabbmfaklekojab
open Go.ChangeShapes Go.WideShapes Go.ChangeAt Go.RowKit
namespace Pk
open Ba

/-- all from lo to hi -/
def ab (lo hi : Int) (l : List Int) : Bool := l.all fun x => decide (lo ≤ x) && decide (x ≤ hi)
theorem ab_iff (lo hi : Int) (l : List Int) : ab lo hi l = true ↔ ∀ x ∈ l, lo ≤ x ∧ x ≤ hi := by
  simp [ab]
theorem ab_nth {lo hi : Int} {l : List Int} : ab lo hi l = true ↔ ∀ k, k < l.length → lo ≤ nth l k ∧ nth l k ≤ hi := by
  rw [ab_iff]
  constructor
  · intro h k hk
    rw [nth_lt l k hk]
    exact h _ (List.getElem_mem hk)
  · intro h x hx
    obtain ⟨k, hk, rfl⟩ := List.mem_iff_getElem.1 hx
    rw [← nth_lt l k hk]
    exact h k hk

set_option maxHeartbeats 1600000 in
theorem between_any (oa : Option Addr) (l : List Int) (c : Nat) (lo hi : Int) (w : World) (hA : At w oa l) (hl : l.length ≤ maxLen) :
    Calls Try.prog 20 #[.slice oa l.length c, .int .i64 lo, .int .i64 hi] w fun r w' => r = .returned (.bool (ab lo hi l)) ∧ w' = w := by
  have HA := hide hA
  clear hA
  unfold maxLen at hl
  go_enter Try.func20, Try.ntmps20
  go_wp2_with fail
  go_loop [11] (fun i => ∃ k : Nat, k ≤ l.length ∧ i = .int .i64 k ∧ ∀ j, j < k → lo ≤ nth l j ∧ nth l j ≤ hi) (fun i => l.length - (intOf i).toNat)
  case atStart => exact ⟨0, Nat.zero_le _, rfl, fun j hj => absurd hj (Nat.not_lt_zero _)⟩
  case round =>
    obtain ⟨k, hk, rfl, hall⟩ := hrel
    have HE := hide hall
    clear hall
    by_cases hlt : k < l.length
    · obtain ⟨b1, o1, rfl, hc1⟩ := HA.out k hlt
      have hlt' : (k : Int) < (l.length : Int) := by omega
      cases h1 : decide (nth l k < lo)
      · cases h2 : decide (hi < nth l k)
        · have HX : Hid (lo ≤ nth l k ∧ nth l k ≤ hi) := by show _ ∧ _; simp at h1 h2; exact ⟨h1, h2⟩
          go_wp2_with fail
          go_round
          case rel => exact ⟨k + 1, by omega, by go_num, fun j hj => by
            by_cases e : j = k
            · subst e; exact HX.out
            · exact HE.out j (by omega)⟩
          case measure => simp [intOf]; omega
        · have HX : Hid (ab lo hi l = false) := by
            show _ = _
            simp at h2
            rw [← Bool.not_eq_true]
            intro e
            have := ab_nth.1 e k hlt
            omega
          go_wp2_with fail
          go_ret
          exact ⟨ret_bool HX.out.symm, rfl⟩
      · have HX : Hid (ab lo hi l = false) := by
          show _ = _
          simp at h1
          rw [← Bool.not_eq_true]
          intro e
          have := ab_nth.1 e k hlt
          omega
        go_wp2_with fail
        go_ret
        exact ⟨ret_bool HX.out.symm, rfl⟩
    · have HX : Hid (ab lo hi l = true) := ab_nth.2 fun j hj => HE.out j (by omega)
      go_wp2_with fail
      go_ret
      exact ⟨ret_bool HX.out.symm, rfl⟩

theorem take_none (C i : Nat) (oa : Option Addr) (c : Nat) (w : World) (h : w.cell? ⟨C, i, none⟩ = some (.slice oa 0 c)) :
    Calls Try.prog 23 #[.pointer (some ⟨C, i, none⟩)] w fun r w' => r = .returned (.tuple #[.int .i64 0, .bool false]) ∧ w' = w := by
  go_enter Try.func23, Try.ntmps23
  go_wp2_with fail
  go_ret2
  exact ⟨rfl, rfl⟩
theorem take_some (C i b off n c : Nat) (x : Int) (w : World) (h : w.cell? ⟨C, i, none⟩ = some (.slice (some ⟨b, off, none⟩) (n + 1) c)) (hf : w.frozen? ⟨C, i, none⟩ = false) (hc : w.cell? ⟨b, off, none⟩ = some (.int .i64 x)) (hn : n + 1 ≤ c) :
    Calls Try.prog 23 #[.pointer (some ⟨C, i, none⟩)] w fun r w' => r = .returned (.tuple #[.int .i64 x, .bool true]) ∧ ∃ off', (0 < n → off' = off + 1) ∧ w' = w.setCell ⟨C, i, none⟩ (.slice (some ⟨b, off', none⟩) n (c - 1)) := by
  go_enter Try.func23, Try.ntmps23
  go_wp2_with fail
  · go_ret2
    exact ⟨rfl, off, fun h => by omega, rfl⟩
  · go_ret2
    exact ⟨rfl, off + 1, fun _ => rfl, rfl⟩

/-- a cursor lies in block C -/
def Cur (w : World) (C : Nat) (p d : List Int) : Prop :=
  ∃ oa ca ob cb, w.heap[C]? = some (.cells #[.slice oa p.length ca, .slice ob d.length cb] 54 (0, 0)) ∧ (At w oa p ∧ p.length ≤ ca ∧ ∀ a, oa = some a → a.block < C) ∧ At w ob d ∧ d.length ≤ cb ∧ ∀ a, ob = some a → a.block < C
theorem Cur.kb {w w' : World} {C : Nat} {p d : List Int} {R : Nat} (h : Cur w C p d) (k : KB R w w') (hR : C < R) : Cur w' C p d := by
  obtain ⟨oa, ca, ob, cb, h0, ⟨h1, h2, h4⟩, h5, h6, h8⟩ := h
  exact ⟨oa, ca, ob, cb, k.heap h0 (by omega), ⟨k.at h1 fun a e => by have := h4 a e; omega, h2, h4⟩, k.at h5 fun a e => by have := h8 a e; omega, h6, h8⟩
theorem Cur.below {w w' : World} {C : Nat} {p d : List Int} (h : Cur w C p d) (hb : Below w.heap.size w w') : Cur w' C p d := by
  obtain ⟨oa, ca, ob, cb, h0, ⟨h1, h2, h4⟩, h5, h6, h8⟩ := h
  exact ⟨oa, ca, ob, cb, heap_below h0 hb, ⟨h1.below hb, h2, h4⟩, h5.below hb, h6, h8⟩
theorem at_tail {w w' : World} {C i b off off' : Nat} {x : Int} {l : List Int} {v : Value} (h : At w (some ⟨b, off, none⟩) (x :: l)) (hb : b < C) (ho : 0 < l.length → off' = off + 1) (hw : w' = w.setCell ⟨C, i, none⟩ v) : At w' (some ⟨b, off', none⟩) l := by
  subst hw
  intro k hk
  obtain rfl := ho (by omega)
  obtain ⟨b', o', e, hc⟩ := ((KB.refl C w).setCell i v).at h.tail (fun a e => by cases e; show b ≠ C; omega) k hk
  exact ⟨b', o', e, hc⟩
theorem hmf : ∀ (fn : Fn) (first cap : Array Value) (w : World), (Instr.makeFunc fn first cap).run Try.prog w = .ok (.func fn first cap) w := fun _ _ _ _ => rfl

theorem takers_any (C : Nat) (w : World) :
    Calls Try.prog 22 #[.pointer (some ⟨C, 0, none⟩)] w fun r w' => r = .returned (.tuple #[.func (.func 23) #[.pointer (some ⟨C, 0, none⟩)] #[], .func (.func 23) #[.pointer (some ⟨C, 1, none⟩)] #[]]) ∧ Below w.heap.size w w' := by
  have hm := hmf
  go_enter Try.func22, Try.ntmps22
  go_wp2_with fail
  go_region
  all_goals
    go_wp2_with fail
    go_ret2
    exact ⟨rfl, bdrew1 _⟩
theorem takers_nil (w : World) :
    Calls Try.prog 22 #[.pointer none] w fun r w' => r = .returned (.tuple #[.func (.func 23) #[.pointer (some ⟨w.heap.size, 0, none⟩)] #[], .func (.func 23) #[.pointer (some ⟨w.heap.size, 0, none⟩)] #[]]) ∧ Below w.heap.size w w' ∧ w'.cell? ⟨w.heap.size, 0, none⟩ = some (.slice none 0 0) := by
  have hm := hmf
  go_enter Try.func22, Try.ntmps22
  go_wp2_with fail
  go_ret2
  exact ⟨rfl, below_alloc _ _, cell_of (heap_new _ _) 0⟩
end Pk
end Go.Proofs.Ytabbmfaklekojab
