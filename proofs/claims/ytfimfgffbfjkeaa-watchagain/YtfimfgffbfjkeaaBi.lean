/- The laws' own Ints, over this seat's program. -/
import Derived.Test.YtfimfgffbfjkeaaBa
namespace Go.Proofs.Ytfimfgffbfjkeaa
open Go.ChangeShapes Go.WideShapes Go.ChangeAt Go.RowKit
namespace Ba

set_option maxHeartbeats 1600000 in
theorem ints_any (oa ob : Option Addr) (l m : List Int) (c d : Nat) (w : World) (hA : At w oa l) (hB : At w ob m) (hl : l.length ≤ 1000000) (hm : m.length ≤ 1000000) :
    Calls Try.prog 25 #[.slice oa l.length c, .slice ob m.length d] w fun r w' => r = .returned (.bool (decide (l = m))) ∧ ∃ q, w' = w.drewN q := by
  have HA : Hid (At w oa l) := hA
  have HB : Hid (At w ob m) := hB
  clear hA hB
  go_enter Try.func25, Try.ntmps25
  go_wp2_with fail
  go_loopw [8] (fun i wr => ∃ k : Nat, k ≤ l.length ∧ i = .int .i64 k ∧ (k ≤ m.length ∧ ∀ j, j < k → nth l j = nth m j) ∧ ∃ q, wr = w.drewN q) (fun i _ => l.length - (intOf i).toNat)
  case atStart => exact ⟨0, Nat.zero_le _, rfl, ⟨Nat.zero_le _, fun j hj => absurd hj (Nat.not_lt_zero _)⟩, 0, rfl⟩
  case round =>
    obtain ⟨k, hk, rfl, ⟨hkm, hall⟩, q, rfl⟩ := hrel
    have HE : Hid (∀ j, j < k → nth l j = nth m j) := hall
    clear hall
    by_cases hlt : k < l.length
    · obtain ⟨b1, o1, rfl, hc1⟩ := HA.out k hlt
      have hlt' : (k : Int) < (l.length : Int) := by omega
      by_cases hlm : k < m.length
      · obtain ⟨b2, o2, rfl, hc2⟩ := HB.out k hlm
        have hlm' : (k : Int) < (m.length : Int) := by omega
        have hg : decide ((m.length : Int) ≤ (k : Int)) = false := by simp; omega
        by_cases he : nth l k = nth m k
        · have he' : (nth l k != nth m k) = false := by simpa using he
          have HX : Hid (nth l k = nth m k) := he
          clear he
          go_wp2_with fail
          go_quiet (fail)
          go_wp2
          go_roundw
          case rel => exact ⟨k + 1, by omega, by go_num, ⟨by omega, fun j hj => by
            by_cases e : j = k
            · subst e; exact HX.out
            · exact HE.out j (by omega)⟩, _, rfl⟩
          case measure => simp [intOf]; omega
        · have he' : (nth l k != nth m k) = true := by simpa using he
          have HX : Hid (l ≠ m) := fun e => he (by rw [e])
          clear he
          go_wp2_with fail
          go_quiet (fail)
          go_wp2
          go_ret
          exact ⟨ret_bool (by simpa using HX.out), by first | exact ⟨_, rfl⟩ | (rw [World.drewN_drewN]; exact ⟨_, rfl⟩)⟩
      · have HX : Hid (l ≠ m) := fun e => by subst e; exact hlm hlt
        have hg : decide ((m.length : Int) ≤ (k : Int)) = true := by simp; omega
        go_wp2_with fail
        go_quiet (fail)
        go_wp2
        go_ret
        exact ⟨ret_bool (by simpa using HX.out), by first | exact ⟨_, rfl⟩ | (rw [World.drewN_drewN]; exact ⟨_, rfl⟩)⟩
    · by_cases he : l.length = m.length
      · have he' : ((l.length : Int) == (m.length : Int)) = true := by simp; omega
        have HX : Hid (l = m) := eq_of_nth he fun j hj => HE.out j (by omega)
        clear he
        go_wp2
        go_ret
        exact ⟨ret_bool (by simpa using HX.out), by first | exact ⟨_, rfl⟩ | (rw [World.drewN_drewN]; exact ⟨_, rfl⟩)⟩
      · have he' : ((l.length : Int) == (m.length : Int)) = false := by simp; omega
        have HX : Hid (l ≠ m) := fun e => he (by rw [e])
        clear he
        go_wp2
        go_ret
        exact ⟨ret_bool (by simpa using HX.out), by first | exact ⟨_, rfl⟩ | (rw [World.drewN_drewN]; exact ⟨_, rfl⟩)⟩
theorem ints_is (oa ob : Option Addr) (l m : List Int) (n k c d : Nat) (x : Bool) (hx : decide (l = m) = x) (hn : l.length = n) (hk : m.length = k) (w : World) (hA : At w oa l) (hB : At w ob m) (hl : n ≤ 1000000) (hm : k ≤ 1000000) :
    Calls Try.prog 25 #[.slice oa n c, .slice ob k d] w fun r w' => r = .returned (.bool x) ∧ Below w.heap.size w w' := by
  subst hn hk hx
  refine (ints_any oa ob l m c d w hA hB hl hm).mono ?_
  rintro r w' ⟨rfl, q, rfl⟩
  exact ⟨rfl, bdrew _ _⟩
theorem owns_below {w w' : World} {base : Nat} {e : TypeId} {size : Nat} {v : Value} {n : Nat} {xs : List Value} (h : w.ownsRow base e size v n xs) (hb : Below w.heap.size w w') : w'.ownsRow base e size v n xs := by
  refine ⟨h.1, ?_⟩
  rcases h.2 with q | ⟨g, cap, cur, q1, q2, q3, q4⟩
  · exact .inl q
  · exact .inr ⟨g, cap, cur, q1, q2, heap_below q3 hb, q4⟩
theorem owns_at {w : World} {base : Nat} {e : TypeId} {v : Value} {l : List Int} (h : w.ownsRow base e 1 v l.length (l.map (Value.int .i64))) : ∃ oa c, v = .slice oa l.length c ∧ At w oa l := by
  rcases h.2 with ⟨rfl, h0⟩ | ⟨g, cap, cur, rfl, _, hg, _, _, hcs, htk⟩
  · refine ⟨none, 0, by rw [h0], fun k hk => by omega⟩
  · refine ⟨_, cap, rfl, fun k hk => ⟨g, 0, rfl, ?_⟩⟩
    rw [Nat.zero_add, cell_of hg k]
    have : (cur.toList.take (l.length * 1))[k]? = (l.map (Value.int .i64))[k]? := by rw [htk]
    rw [List.getElem?_take] at this
    simp [hk] at this
    rw [nth_lt l k hk]
    rw [← this]
theorem info_int : (Try.prog.info? 3).map (fun i => (i.zero, i.size, i.bytes)) = some (some (.int .i64 0), 1, 8) := by kernel_rfl
end Ba
end Go.Proofs.Ytfimfgffbfjkeaa
