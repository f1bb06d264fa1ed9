/- Package report, over this seat's program: Retire, New. -/
import Derived.Test.YtodppbahihjegaaZc
namespace Go.Proofs.Ytodppbahihjegaa
open Go.ChangeShapes Go.WideShapes Go.ChangeAt Go.RowKit
namespace Rep
open Ck Ce
open Ba (hide KF)
open Ep (tidOf clkOf ownB)

def badR (tid cut : Int) : Prop := tid < 0 ∨ 256 ≤ tid ∨ cut < 0 ∨ 1048576 < cut
set_option maxRecDepth 100000 in
theorem retire_nil' (tid cut : Int) (h : ¬ badR tid cut) (w : World) : Calls Try.prog 28 #[.pointer none, .int .i64 tid, .int .i64 cut] w fun r w' => r = .returned (.int .i64 7) ∧ w' = w := by
  unfold badR at h
  have CN := hide (fun u => cell_nil 0 u)
  have RN := hide (fun u => Ce.retire_nil tid cut (by omega) (by omega) (by omega) (by omega) u)
  clear h
  go_enter Try.func28, Try.ntmps28
  go_wp2_with fail
  go_loopw [9] (fun i wr => i = .int .i64 0 ∧ wr = w) (fun _ _ => 0)
  case atStart => exact ⟨rfl, rfl⟩
  case round =>
    obtain ⟨rfl, rfl⟩ := hrel
    go_wp2_with fail
    refine (CN.out _).mono ?_
    rintro r w1 ⟨rfl, e1⟩
    obtain rfl := e1.symm
    go_wp2_with fail
    refine (RN.out _).mono ?_
    rintro r w1 ⟨rfl, e1⟩
    obtain rfl := e1.symm
    go_wp2_with fail
    go_ret
    exact ⟨rfl, rfl⟩
set_option maxRecDepth 100000 in
theorem retire_arg' (o : Option Addr) (tid cut : Int) (h : badR tid cut) (w : World) (hc : ∃ p, Calls Try.prog 26 #[.pointer o, .int .i64 0] w fun r w' => r = .returned (.pointer p) ∧ w' = w) : Calls Try.prog 28 #[.pointer o, .int .i64 tid, .int .i64 cut] w fun r w' => r = .returned (.int .i64 1) ∧ w' = w := by
  obtain ⟨p, hc⟩ := hc
  have CN := hide hc
  have RN := hide (fun u => Ce.retire_arg p tid cut h u)
  clear h hc
  go_enter Try.func28, Try.ntmps28
  go_wp2_with fail
  go_loopw [9] (fun i wr => i = .int .i64 0 ∧ wr = w) (fun _ _ => 0)
  case atStart => exact ⟨rfl, rfl⟩
  case round =>
    obtain ⟨rfl, rfl⟩ := hrel
    go_wp2_with fail
    refine CN.out.mono ?_
    rintro r w1 ⟨rfl, e1⟩
    obtain rfl := e1.symm
    go_wp2_with fail
    refine (RN.out _).mono ?_
    rintro r w1 ⟨rfl, e1⟩
    obtain rfl := e1.symm
    go_wp2_with fail
    go_ret
    exact ⟨rfl, rfl⟩
/-- the first k cells have forgotten a tid -/
def rtC (S : Rst) (tid cut : Int) (k : Nat) : Nat → Cst := fun j => if j < k then retS (S.c j) tid cut else S.c j
theorem rtC_zero (S : Rst) (tid cut : Int) : rtC S tid cut 0 = S.c := by funext j; simp [rtC]
theorem rtC_succ (S : Rst) (tid cut : Int) (k : Nat) : upn (rtC S tid cut k) k (retS (rtC S tid cut k k) tid cut) = rtC S tid cut (k + 1) := by
  funext j
  unfold upn rtC
  by_cases e : j = k
  · subst e; simp
  · rw [if_neg e]
    by_cases h : j < k
    · rw [if_pos h, if_pos (by omega)]
    · rw [if_neg h, if_neg (by omega)]
section
variable {Y : Nat → Prop} {X : Nat} {w : World} {S : Rst} {mb : Nat} {D : DataW Unit} {xs : Nat → Nat} {vs : Nat → Value}
set_option maxRecDepth 100000 in
theorem retire_ok' (s : RX Y X w S mb D xs vs) (tid cut : Int) (h : ¬ badR tid cut) :
    Calls Try.prog 28 #[.pointer (some ⟨X, 0, none⟩), .int .i64 tid, .int .i64 cut] w fun r w' => r = .returned (.int .i64 0) ∧ (∃ vs', RX Y X w' ⟨rtC S tid cut 8, S.f⟩ mb D xs vs') ∧ KY Y w w' := by
  unfold badR at h
  have S0 : Hid (RX Y X w ⟨rtC S tid cut 0, S.f⟩ mb D xs vs) := by rw [rtC_zero]; exact s
  have YL := hide s.yl
  clear s
  go_enter Try.func28, Try.ntmps28
  go_wp2_with fail
  go_loopw [9] (fun i wr => ∃ (k : Nat) (v : Nat → Value), k ≤ 8 ∧ i = .int .i64 (k : Int) ∧ RX Y X wr ⟨rtC S tid cut k, S.f⟩ mb D xs v ∧ KY Y w wr) (fun i _ => 8 - (intOf i).toNat)
  case atStart => exact ⟨0, vs, by decide, rfl, S0.out, KY.refl _ _⟩
  case round =>
    clear S0
    obtain ⟨k, v, hk, rfl, s, ky⟩ := hrel
    have KH := hide ky
    by_cases hlt : k < 8
    · have hlt' : (k : Int) < 8 := by omega
      have CA := hide (cell_at s k hlt)
      have RT := hide (retire_ok ⟨_, s.cx k hlt⟩ tid cut (by omega) (by omega) (by omega) (by omega))
      unfold RetR at RT
      unfold pt at CA
      have SH := hide s
      clear s ky
      go_wp2_with fail
      refine CA.out.mono ?_
      rintro r w1 ⟨rfl, e1⟩
      obtain rfl := e1.symm
      go_wp2_with fail
      refine RT.out.mono ?_
      rintro r w2 ⟨rfl, ⟨v2, c2⟩, k2⟩
      have S2 := SH.out.cell hlt c2 k2
      rw [rtC_succ] at S2
      have S2H := hide S2
      have K2 := hide (KH.out.trans (k2.mono fun _ q => .inl q))
      clear c2 k2 S2 RT CA SH KH
      go_wp2_with fail
      go_roundw
      case rel => exact ⟨k + 1, _, by omega, by go_num, S2H.out, K2.out⟩
      case measure => simp [intOf]; omega
    · obtain rfl : k = 8 := by omega
      have SH := hide s
      clear s ky
      go_wp2_with fail
      go_ret
      exact ⟨rfl, ⟨_, SH.out⟩, KH.out⟩
end
/-- a report without accesses -/
def c00 : Cst := ⟨0, [], false⟩
def S00 : Rst := ⟨fun _ => c00, fun _ => none⟩
def hp (B k : Nat) : Nat → Value := fun j => if j < k then pt (B + j) else .pointer none
theorem hp_succ (B k : Nat) : upn (hp B k) k (pt (B + k)) = hp B (k + 1) := by
  funext j
  unfold upn hp
  by_cases e : j = k
  · subst e; simp
  · rw [if_neg e]
    by_cases h : j < k
    · rw [if_pos h, if_pos (by omega)]
    · rw [if_neg h, if_neg (by omega)]
theorem cnew_is (w : World) : Calls Try.prog 7 #[] w fun r w' => r = .returned (pt w.heap.size) ∧ w' = w.alloc (.cells #[.int .u64 0, .slice none 0 0, .bool false] 94) := by
  unfold pt
  go_enter Try.func7, Try.ntmps7
  go_wp2_with fail
  go_ret
  exact ⟨rfl, rfl⟩
end Rep
end Go.Proofs.Ytodppbahihjegaa
