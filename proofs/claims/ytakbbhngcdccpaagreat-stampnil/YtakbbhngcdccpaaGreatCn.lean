/- Package clock: List, New, and the laws' own Ints, over this seat's program. -/
import Derived.Test.YtakbbhngcdccpaaGreatCm
namespace Go.Proofs.YtakbbhngcdccpaaGreat
open Go.ChangeShapes Go.WideShapes Go.ChangeAt Go.RowKit
namespace Ck

set_option maxHeartbeats 400000 in
theorem list_nil (w : World) :
    Calls Tryz.prog 78 #[.pointer none] w fun r w' => r = .returned (.slice none 0 0) ∧ w' = w := by
  go_enter Tryz.func78, Tryz.ntmps78
  go_wp2
  go_ret
  exact ⟨rfl, rfl⟩

set_option maxHeartbeats 400000 in
theorem list_any (b : Nat) (l : List Int) (w : World) (h : CK w b l) :
    Calls Tryz.prog 78 #[.pointer (some ⟨b, 0, none⟩)] w fun r w' => r = .returned (.slice (some ⟨w.heap.size, 0, none⟩) l.length l.length) ∧ w' = w.alloc (.cells (row l) 3) := by
  obtain ⟨oa, c, s, h0, _, hA, hL⟩ := h
  have HA : Hid (At w oa l) := hA
  clear hA
  go_enter Tryz.func78, Tryz.ntmps78
  go_wp2_with (go_at_call 96; refine (dup_any _ l _ _ HA.out hL).mono ?_; rintro r w' ⟨rfl, rfl⟩)
  go_ret
  exact ⟨rfl, rfl⟩

theorem eq_of_nth {l m : List Int} (hl : l.length = m.length) (h : ∀ j, j < l.length → nth l j = nth m j) : l = m := by
  apply List.ext_getElem hl
  intro i h1 h2
  have := h i h1
  rwa [nth_lt l i h1, nth_lt m i h2] at this

set_option maxHeartbeats 1600000 in
theorem ints_any (oa ob : Option Addr) (l m : List Int) (c d : Nat) (w : World) (hA : At w oa l) (hB : At w ob m) (hl : l.length ≤ 256) (hm : m.length ≤ 256) :
    Calls Tryz.prog 25 #[.slice oa l.length c, .slice ob m.length d] w fun r w' => r = .returned (.bool (decide (l = m))) ∧ ∃ q, w' = w.drewN q := by
  have HA : Hid (At w oa l) := hA
  have HB : Hid (At w ob m) := hB
  clear hA hB
  go_enter Tryz.func25, Tryz.ntmps25
  go_wp2_with fail
  go_loopw [8] (fun i wr => ∃ k : Nat, k ≤ l.length ∧ i = .int .i64 k ∧ (k ≤ m.length ∧ ∀ j, j < k → nth l j = nth m j) ∧ ∃ q, wr = w.drewN q) (fun i _ => l.length - (intOf i).toNat)
  case atStart => exact ⟨0, Nat.zero_le _, rfl, ⟨Nat.zero_le _, fun j hj => absurd hj (Nat.not_lt_zero _)⟩, 0, rfl⟩
  case round =>
    obtain ⟨k, hk, rfl, ⟨hkm, hall⟩, q, rfl⟩ := hrel
    have HE : Hid (∀ j, j < k → nth l j = nth m j) := hall
    clear hall
    by_cases hlt : k < l.length
    · obtain ⟨b1, o1, rfl, hc1⟩ := HA.out k hlt
      have hlt' : (k : Int) < (l.length : Int) := by omega
      by_cases hlm : k < m.length
      · obtain ⟨b2, o2, rfl, hc2⟩ := HB.out k hlm
        have hlm' : (k : Int) < (m.length : Int) := by omega
        have hg : decide ((m.length : Int) ≤ (k : Int)) = false := by simp; omega
        by_cases he : nth l k = nth m k
        · have he' : (nth l k != nth m k) = false := by simpa using he
          have HX : Hid (nth l k = nth m k) := he
          clear he
          go_wp2_with fail
          go_quiet (fail)
          go_wp2
          go_roundw
          case rel => exact ⟨k + 1, by omega, by go_num, ⟨by omega, fun j hj => by
            by_cases e : j = k
            · subst e; exact HX.out
            · exact HE.out j (by omega)⟩, _, rfl⟩
          case measure => simp [intOf]; omega
        · have he' : (nth l k != nth m k) = true := by simpa using he
          have HX : Hid (l ≠ m) := fun e => he (by rw [e])
          clear he
          go_wp2_with fail
          go_quiet (fail)
          go_wp2
          go_ret
          exact ⟨ret_bool (by simpa using HX.out), by first | exact ⟨_, rfl⟩ | (rw [World.drewN_drewN]; exact ⟨_, rfl⟩)⟩
      · have HX : Hid (l ≠ m) := fun e => by subst e; exact hlm hlt
        have hg : decide ((m.length : Int) ≤ (k : Int)) = true := by simp; omega
        go_wp2_with fail
        go_quiet (fail)
        go_wp2
        go_ret
        exact ⟨ret_bool (by simpa using HX.out), by first | exact ⟨_, rfl⟩ | (rw [World.drewN_drewN]; exact ⟨_, rfl⟩)⟩
    · by_cases he : l.length = m.length
      · have he' : ((l.length : Int) == (m.length : Int)) = true := by simp; omega
        have HX : Hid (l = m) := eq_of_nth he fun j hj => HE.out j (by omega)
        clear he
        go_wp2
        go_ret
        exact ⟨ret_bool (by simpa using HX.out), by first | exact ⟨_, rfl⟩ | (rw [World.drewN_drewN]; exact ⟨_, rfl⟩)⟩
      · have he' : ((l.length : Int) == (m.length : Int)) = false := by simp; omega
        have HX : Hid (l ≠ m) := fun e => he (by rw [e])
        clear he
        go_wp2
        go_ret
        exact ⟨ret_bool (by simpa using HX.out), by first | exact ⟨_, rfl⟩ | (rw [World.drewN_drewN]; exact ⟨_, rfl⟩)⟩
end Ck
end Go.Proofs.YtakbbhngcdccpaaGreat
