/- Package cell, over this seat's program: rows of epochs: IndexFunc, ContainsFunc, by whatever function that is handed on. -/
import Derived.Test.YtekdcfdjohlfcaaCn
import Derived.Test.YtekdcfdjohlfcaaFa
import Derived.Maps.AppendAt
import Derived.Lib.Slices
namespace Go.Proofs.Ytekdcfdjohlfcaa
open Go.ChangeShapes Go.WideShapes Go.ChangeAt Go.RowKit
namespace Ce
open Ck
open Ba (KF Bd Nw hide)

/-- a row of epochs -/
def us (l : List Int) : List Value := l.map (Value.int .u64)
theorem us_len (l : List Int) : (us l).length = l.length * 1 := by simp [us]
theorem us_one (l : List Int) : ∀ u ∈ us l, u.oneCell' = true := by
  intro u hu
  obtain ⟨b, -, rfl⟩ := List.mem_map.1 hu
  rfl
theorem us_at (l : List Int) (k : Nat) (h : k < l.length) : (us l)[k]? = some (.int .u64 (nth l k)) := by simp [us, nth, h]
/-- each is of 64 bits -/
def U64 (l : List Int) : Prop := ∀ x ∈ l, 0 ≤ x ∧ x ≤ 18446744073709551615
theorem U64.nth {l : List Int} (h : U64 l) (k : Nat) : 0 ≤ nth l k ∧ nth l k ≤ 18446744073709551615 := by
  by_cases hk : k < l.length
  · rw [nth_lt l k hk]; exact h _ (List.getElem_mem hk)
  · rw [nth_out l k (by omega)]; omega
theorem info_e : (Try.prog.info? 61).map (fun i => (i.zero, i.size, i.bytes)) = some (some (.int .u64 0), 1, 8) := by kernel_rfl
/-- the value is a slice -/
theorem own_sl {w : World} {e : TypeId} {v : Value} {n : Nat} {xs : List Value} (h : w.ownsRow 0 e 1 v n xs) : ∃ oa c, v = .slice oa n c := by
  rcases h.2 with ⟨rfl, rfl⟩ | ⟨g, cap, cr, rfl, -⟩
  · exact ⟨none, 0, rfl⟩
  · exact ⟨_, _, rfl⟩
theorem own_cell {w : World} {oa : Option Addr} {c k : Nat} {l : List Int} (h : w.ownsRow 0 61 1 (.slice oa l.length c) l.length (us l)) (hk : k < l.length) :
    ∃ g, oa = some ⟨g, 0, none⟩ ∧ w.cell? ⟨g, k, none⟩ = some (.int .u64 (nth l k)) ∧ w.frozen? ⟨g, k, none⟩ = false := by
  rcases h.2 with ⟨-, h0⟩ | ⟨g, cap, cur, e, -⟩
  · omega
  · cases e
    exact ⟨g, rfl, by rw [h.cellAt k (by omega)]; exact us_at l k hk, h.frozenAt k⟩
theorem own_cap {w : World} {oa : Option Addr} {c : Nat} {l : List Int} (h : w.ownsRow 0 61 1 (.slice oa l.length c) l.length (us l)) : l.length ≤ c ∧ c ≤ maxLen := by
  rcases h.2 with ⟨e, h0⟩ | ⟨g, cap, cur, e, -, -, h1, h2, -⟩
  · simp only [Value.slice.injEq] at e; exact ⟨by omega, by rw [e.2.2]; exact Nat.zero_le _⟩
  · cases e; exact ⟨h1, h2⟩

/-- where the first one is that is so; else -1 -/
def idx (p : Int → Bool) (l : List Int) : Int := match l.findIdx? p with | some i => (i : Int) | none => -1
theorem idx_none {p : Int → Bool} {l : List Int} (h : ∀ j, j < l.length → p (nth l j) = false) : idx p l = -1 := by
  have : l.findIdx? p = none := by
    rw [List.findIdx?_eq_none_iff]
    intro x hx
    obtain ⟨j, hj, rfl⟩ := List.getElem_of_mem hx
    have := h j hj
    rwa [nth_lt l j hj] at this
  simp [idx, this]
theorem idx_some {p : Int → Bool} {l : List Int} {k : Nat} (hk : k < l.length) (h : ∀ j, j < k → p (nth l j) = false) (hp : p (nth l k) = true) : idx p l = (k : Int) := by
  have : l.findIdx? p = some k := by
    rw [List.findIdx?_eq_some_iff_getElem]
    refine ⟨hk, by rwa [nth_lt l k hk] at hp, fun j hj => ?_⟩
    have := h j hj
    rw [nth_lt l j (by omega)] at this
    simp [this]
  simp [idx, this]

set_option maxHeartbeats 1600000 in
theorem index_any (n : FuncId) (caps : Array Value) (hn : ∀ (a : Array Value) (u : World), (callFunc n a).run Try.prog u = .ok (.enter n a) u) (p : Int → Bool) (v : Value) (l : List Int) (w : World)
    (ho : w.ownsRow 0 61 1 v l.length (us l)) (hp : ∀ k, k < l.length → Calls Try.prog n (#[.int .u64 (nth l k)] ++ caps) w fun r w' => r = .returned (.bool (p (nth l k))) ∧ w' = w) :
    Calls Try.prog 85 #[v, .func (.func n) #[] caps] w fun r w' => r = .returned (.int .i64 (idx p l)) ∧ w' = w := by
  obtain ⟨oa, c, rfl⟩ := own_sl ho
  have HO := hide ho
  have HP := hide hp
  have hcap := own_cap ho
  have hm2 : l.length ≤ 9223372036854775807 := by have := hcap.2; simp only [maxLen] at this; omega
  clear ho hp hcap
  go_enter Try.func85, Try.ntmps85
  go_wp2_with fail
  go_loop [8] (fun i => ∃ k : Nat, k ≤ l.length ∧ i = .int .i64 k ∧ ∀ j, j < k → p (nth l j) = false) (fun i => l.length - (intOf i).toNat)
  case atStart => exact ⟨0, Nat.zero_le _, rfl, fun j hj => absurd hj (Nat.not_lt_zero _)⟩
  case round =>
    obtain ⟨k, hk, rfl, hall⟩ := hrel
    have HA := hide hall
    clear hall
    by_cases hlt : k < l.length
    · have hlt' : (k : Int) < (l.length : Int) := by omega
      obtain ⟨g, rfl, c0, -⟩ := own_cell HO.out hlt
      have CL := hide (HP.out k hlt)
      cases hpk : p (nth l k)
      · have HK := hide hpk
        rw [hpk] at CL
        clear hpk
        go_wp2_with fail
        refine CL.out.mono ?_
        rintro r w1 ⟨rfl, e1⟩
        obtain rfl := e1.symm
        go_wp2_with fail
        go_round
        case rel => exact ⟨k + 1, by omega, by go_num, fun j hj => by
          by_cases e : j = k
          · rw [e]; exact HK.out
          · exact HA.out j (by omega)⟩
        case measure => simp [intOf]; omega
      · have HK := hide hpk
        rw [hpk] at CL
        clear hpk
        go_wp2_with fail
        refine CL.out.mono ?_
        rintro r w1 ⟨rfl, e1⟩
        obtain rfl := e1.symm
        go_wp2_with fail
        go_ret
        exact ⟨ret_int (idx_some hlt HA.out HK.out).symm, rfl⟩
    · have hlt' : ¬ ((k : Int) < (l.length : Int)) := by omega
      go_wp2_with fail
      go_ret
      exact ⟨ret_int (idx_none fun j hj => HA.out j (by omega)).symm, rfl⟩

theorem idx_any_iff (p : Int → Bool) (l : List Int) : decide (0 ≤ idx p l) = l.any p := by
  cases h : l.findIdx? p with
  | none =>
    have h2 := List.findIdx?_eq_none_iff.1 h
    have : l.any p = false := by rw [List.any_eq_false]; intro x hx; simp [h2 x hx]
    simp [idx, h, this]
  | some i =>
    obtain ⟨hi, hp, -⟩ := List.findIdx?_eq_some_iff_getElem.1 h
    have : l.any p = true := by rw [List.any_eq_true]; exact ⟨_, List.getElem_mem hi, hp⟩
    simp [idx, h, this]

set_option maxHeartbeats 1600000 in
theorem contains_any (n : FuncId) (caps : Array Value) (hn : ∀ (a : Array Value) (u : World), (callFunc n a).run Try.prog u = .ok (.enter n a) u) (p : Int → Bool) (v : Value) (l : List Int) (w : World)
    (ho : w.ownsRow 0 61 1 v l.length (us l)) (hp : ∀ k, k < l.length → Calls Try.prog n (#[.int .u64 (nth l k)] ++ caps) w fun r w' => r = .returned (.bool (p (nth l k))) ∧ w' = w) :
    Calls Try.prog 93 #[v, .func (.func n) #[] caps] w fun r w' => r = .returned (.bool (l.any p)) ∧ w' = w := by
  have IX := hide (index_any n caps hn p v l w ho hp)
  have HD := hide (idx_any_iff p l)
  obtain ⟨oa, c, rfl⟩ := own_sl ho
  clear ho hp hn
  generalize idx p l = x at *
  go_enter Try.func93, Try.ntmps93
  go_wp2_with fail
  refine IX.out.mono ?_
  rintro r w1 ⟨rfl, e1⟩
  obtain rfl := e1.symm
  go_wp2_with fail
  go_ret
  exact ⟨ret_bool HD.out, rfl⟩
end Ce
end Go.Proofs.Ytekdcfdjohlfcaa
