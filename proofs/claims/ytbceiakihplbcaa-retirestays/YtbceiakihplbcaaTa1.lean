/- Package retire, over this seat's program: lists of clocks; some, Of. -/
import Derived.Test.YtbceiakihplbcaaCn
import Derived.Test.YtbceiakihplbcaaFa
import Derived.Lib.Slices
namespace Go.Proofs.Ytbceiakihplbcaa
open Go.ChangeShapes Go.WideShapes Go.ChangeAt Go.RowKit
namespace Rt
open Ck
open Ba (hide)

theorem btr {a b c : World} (h : Below a.heap.size a b) (k : Below b.heap.size b c) : Below a.heap.size a c := h.trans (k.mono h.size)
theorem cellB {w w' : World} {a : Addr} {v : Value} (h : w.cell? a = some v) (b : Below w.heap.size w w') : w'.cell? a = some v := (b.cell (World.block_lt_of_cell? w _ h)).trans h
def pt (b : Nat) : Value := .pointer (some ⟨b, 0, none⟩)
/-- clocks: each one's block and numbers -/
def KAt (w : World) (oa : Option Addr) (ks : List (Nat × List Int)) : Prop :=
  ∀ k z, ks[k]? = some z → ∃ g off, oa = some ⟨g, off, none⟩ ∧ w.cell? ⟨g, off + k, none⟩ = some (pt z.1) ∧ CK w z.1 z.2
theorem KAt.below {w w' : World} {oa : Option Addr} {ks : List (Nat × List Int)} (h : KAt w oa ks) (b : Below w.heap.size w w') : KAt w' oa ks := by
  intro k z hk
  obtain ⟨g, off, e, c, q⟩ := h k z hk
  exact ⟨g, off, e, cellB c b, q.below b⟩
set_option maxHeartbeats 1600000 in
/-- whatever function is handed on -/
theorem index_any (n : FuncId) (caps : Array Value) (hn : ∀ (a : Array Value) (u : World), (callFunc n a).run Try.prog u = .ok (.enter n a) u) (p : List Int → Bool) (oa : Option Addr) (c : Nat) (ks : List (Nat × List Int)) (w : World) (hA : KAt w oa ks) (hl : ks.length ≤ 100000)
    (hp : ∀ u, Below w.heap.size w u → ∀ (k : Nat) (z : Nat × List Int), ks[k]? = some z → Calls Try.prog n (#[pt z.1] ++ caps) u fun r w' => r = .returned (.bool (p z.2)) ∧ Below u.heap.size u w') :
    Calls Try.prog 29 #[.slice oa ks.length c, .func (.func n) #[] caps] w fun r w' => ∃ i : Int, r = .returned (.int .i64 i) ∧ (decide (0 ≤ i) = ks.any fun z => p z.2) ∧ Below w.heap.size w w' := by
  have HA := hide hA
  have HP := hide hp
  have HK : Hid (∀ k, k ≤ ks.length → (∀ j z, j < k → ks[j]? = some z → p z.2 = false) → k = ks.length → (ks.any fun z => p z.2) = false) := by
    intro k _ h e
    rw [List.any_eq_false]
    intro z hz
    obtain ⟨j, hj, rfl⟩ := List.getElem_of_mem hz
    have := h j ks[j] (by omega) (List.getElem?_eq_getElem hj)
    simp [this]
  clear hA hp
  obtain ⟨N, hN⟩ : ∃ N, ks.length = N := ⟨_, rfl⟩
  have hm2 : N ≤ 9223372036854775807 := by omega
  rw [hN] at HK hl ⊢
  go_enter Try.func29, Try.ntmps29
  go_wp2_with fail
  go_loopw [8] (fun i wr => ∃ k : Nat, k ≤ N ∧ i = .int .i64 k ∧ (∀ j z, j < k → ks[j]? = some z → p z.2 = false) ∧ Below w.heap.size w wr) (fun i _ => N - (intOf i).toNat)
  case atStart => exact ⟨0, Nat.zero_le _, rfl, fun j _ hj => absurd hj (Nat.not_lt_zero _), Below.refl _ _⟩
  case round =>
    obtain ⟨k, hk, rfl, hall, bl⟩ := hrel
    have HL := hide hall
    have BL := hide bl
    clear hall bl
    by_cases hlt : k < N
    · have hlt' : (k : Int) < (N : Int) := by omega
      obtain ⟨z, hz⟩ : ∃ z, ks[k]? = some z := ⟨_, List.getElem?_eq_getElem (by omega)⟩
      obtain ⟨g, off, rfl, c0, -⟩ := HA.out k z hz
      have c1 := cellB c0 BL.out
      have CL := hide (HP.out wr BL.out k z hz)
      have HZ := hide hz
      unfold pt at c1 CL
      clear c0 hz
      cases hpk : p z.2
      · have HK2 := hide hpk
        rw [hpk] at CL
        clear hpk
        go_wp2_with fail
        refine CL.out.mono ?_
        rintro r w1 ⟨rfl, b1⟩
        have B1 := hide (btr BL.out b1)
        clear b1
        go_wp2_with fail
        go_roundw
        case rel => exact ⟨k + 1, by omega, by go_num, fun j y hj hy => by
          by_cases e : j = k
          · rw [e, HZ.out] at hy; cases hy; exact HK2.out
          · exact HL.out j y (by omega) hy, B1.out⟩
        case measure => simp [intOf]; omega
      · have HK2 := hide hpk
        rw [hpk] at CL
        clear hpk
        go_wp2_with fail
        refine CL.out.mono ?_
        rintro r w1 ⟨rfl, b1⟩
        have B1 := hide (btr BL.out b1)
        clear b1
        have AN : Hid ((ks.any fun z => p z.2) = true) := List.any_eq_true.2 ⟨z, List.mem_of_getElem? HZ.out, HK2.out⟩
        go_wp2_with fail
        go_ret
        exact ⟨(k : Int), rfl, by rw [AN.out]; simp, B1.out⟩
    · have hlt' : ¬ ((k : Int) < (N : Int)) := by omega
      have AN := hide (HK.out k (by omega) HL.out (by omega))
      go_wp2_with fail
      go_ret
      exact ⟨-1, rfl, by rw [AN.out]; decide, BL.out⟩
set_option maxHeartbeats 1600000 in
theorem contains_any (n : FuncId) (caps : Array Value) (hn : ∀ (a : Array Value) (u : World), (callFunc n a).run Try.prog u = .ok (.enter n a) u) (p : List Int → Bool) (oa : Option Addr) (c : Nat) (ks : List (Nat × List Int)) (w : World) (hA : KAt w oa ks) (hl : ks.length ≤ 100000)
    (hp : ∀ u, Below w.heap.size w u → ∀ (k : Nat) (z : Nat × List Int), ks[k]? = some z → Calls Try.prog n (#[pt z.1] ++ caps) u fun r w' => r = .returned (.bool (p z.2)) ∧ Below u.heap.size u w') :
    Calls Try.prog 27 #[.slice oa ks.length c, .func (.func n) #[] caps] w fun r w' => r = .returned (.bool (ks.any fun z => p z.2)) ∧ Below w.heap.size w w' := by
  have IX := hide (index_any n caps hn p oa c ks w hA hl hp)
  generalize (ks.any fun z => p z.2) = a at *
  clear hA hp
  go_enter Try.func27, Try.ntmps27
  go_wp2_with fail
  refine IX.out.mono ?_
  rintro r w1 ⟨i, rfl, e, b⟩
  have BH := hide b
  have EH := hide e
  clear b e
  go_wp2_with fail
  go_ret
  exact ⟨by rw [← EH.out]; rfl, BH.out⟩
/-- a number held against a cut -/
def unl (cut n : Int) : Bool := !(decide (n = cut))
def abv (cut n : Int) : Bool := decide (cut < n)
theorem unl_any (n cut : Int) (B : Nat) (w : World) (hB : w.cell? ⟨B, 0, none⟩ = some (.int .i64 cut)) : Calls Try.prog 20 #[.int .i64 n, .pointer (some ⟨B, 0, none⟩)] w fun r w' => r = .returned (.bool (unl cut n)) ∧ w' = w := by
  by_cases h : n = cut
  · subst h
    go_enter Try.func20, Try.ntmps20
    go_wp2_with fail
    go_ret
    exact ⟨by simp [unl], rfl⟩
  · have h' : (n == cut) = false := by simp [h]
    go_enter Try.func20, Try.ntmps20
    go_wp2_with fail
    go_ret
    exact ⟨by simp [unl, h], rfl⟩
theorem abv_any (n cut : Int) (B : Nat) (w : World) (hB : w.cell? ⟨B, 0, none⟩ = some (.int .i64 cut)) : Calls Try.prog 21 #[.int .i64 n, .pointer (some ⟨B, 0, none⟩)] w fun r w' => r = .returned (.bool (abv cut n)) ∧ w' = w := by
  go_enter Try.func21, Try.ntmps21
  go_wp2_with fail
  go_ret
  exact ⟨by simp [abv], rfl⟩
theorem enter_o1 : ∀ (a : Array Value) (u : World), (callFunc 20 a).run Try.prog u = .ok (.enter 20 a) u := fun _ _ => by rfl
theorem enter_o2 : ∀ (a : Array Value) (u : World), (callFunc 21 a).run Try.prog u = .ok (.enter 21 a) u := fun _ _ => by rfl
theorem enter_s1 : ∀ (a : Array Value) (u : World), (callFunc 28 a).run Try.prog u = .ok (.enter 28 a) u := fun _ _ => by rfl
set_option maxHeartbeats 1600000 in
/-- one clock, by whatever test f of its number -/
theorem so1_any (f : FuncId) (caps : Array Value) (q : Int → Bool) (b : Nat) (l : List Int) (tid : Int) (P T : Nat) (w : World) (hc : CK w b l) (hP : w.cell? ⟨P, 0, none⟩ = some (.func (.func f) #[] caps)) (hT : w.cell? ⟨T, 0, none⟩ = some (.int .i64 tid))
    (hn : ∀ (a : Array Value) (u : World), (callFunc f a).run Try.prog u = .ok (.enter f a) u)
    (hq : ∀ n u, Below w.heap.size w u → Calls Try.prog f (#[.int .i64 n] ++ caps) u fun r w' => r = .returned (.bool (q n)) ∧ w' = u) :
    Calls Try.prog 28 #[.pointer (some ⟨b, 0, none⟩), .pointer (some ⟨P, 0, none⟩), .pointer (some ⟨T, 0, none⟩)] w fun r w' => r = .returned (.bool (q (gt l tid))) ∧ Below w.heap.size w w' := by
  have G := hide (fun k => get_any b l tid (w.drewN k) (hc.below (Ba.bdrew w k)))
  have Q := hide (fun k => hq (gt l tid) (w.drewN k) (Ba.bdrew w k))
  clear hc hq
  generalize gt l tid = x at *
  generalize q x = y at *
  go_enter Try.func28, Try.ntmps28
  go_wp2_with fail
  go_quiet (first | (go_at_call 16; exact Calls.quiet_of_same (G.out _)) | (exact Calls.quiet_of_same (Q.out _)))
  go_wp2_with fail
  go_ret
  exact ⟨rfl, Ba.bdrew _ _⟩
end Rt
end Go.Proofs.Ytbceiakihplbcaa
