/- The law's own same(), over this seat's program. -/
import Derived.Test.YtiefaihflmogpabVj
import Derived.Test.YtiefaihflmogpabVk
namespace Go.Proofs.Ytiefaihflmogpab
open Go.ChangeShapes Go.WideShapes Go.ChangeAt Go.RowKit
namespace Pe
open Ba
theorem cellB {w w' : World} {b i : Nat} {v : Value} (h : w.cell? ⟨b, i, none⟩ = some v) (hb : Below w.heap.size w w') : w'.cell? ⟨b, i, none⟩ = some v := (hb.cell (World.block_lt_of_cell? w _ h)).trans h
set_option maxRecDepth 100000 in
set_option maxHeartbeats 1600000 in
theorem same_any (oa ob : Option Addr) (l : List Wt) (c d : Nat) (w : World) (hA : WAt w oa l) (hB : WAt w ob l) (hl : l.length ≤ 1024) :
    Calls Try.prog 22 #[.slice oa l.length c, .slice ob l.length d] w fun r w' => r = .returned (.bool true) ∧ Below w.heap.size w w' := by
  have HA := hide hA
  have HE := hide hB
  clear hA hB
  go_enter Try.func22, Try.ntmps22
  go_wp2_with fail
  go_loopw [13] (fun i wr => ∃ k : Nat, k ≤ l.length ∧ i = .int .i64 k ∧ Below w.heap.size w wr) (fun i _ => l.length - (intOf i).toNat)
  case atStart => exact ⟨0, Nat.zero_le _, rfl, Below.refl _ _⟩
  case round =>
    obtain ⟨k, hk, rfl, hb⟩ := hrel
    by_cases hlt : k < l.length
    · have hlt' : (k : Int) < (l.length : Int) := by omega
      obtain ⟨x, hx⟩ : ∃ x, l[k]? = some x := ⟨_, List.getElem?_eq_getElem hlt⟩
      obtain ⟨b, off, rfl, q0, q1, q2⟩ := HA.out.below hb k x hx
      obtain ⟨b', off', rfl, p0, p1, p2⟩ := HE.out.below hb k x hx
      have HB := hide hb
      clear hb hx
      have RF := hide fun u => ref_any x u
      unfold wv at RF
      go_wp2_with fail
      go_region_held3 (fun w' => w'.cell? ⟨b, off + k * 3, none⟩ = some (.int .i64 x.g) ∧ w'.cell? ⟨b, off + k * 3 + 1, none⟩ = some (.int .i64 x.c) ∧ w'.cell? ⟨b, off + k * 3 + 2, none⟩ = some (.int .i64 x.v) ∧ w'.cell? ⟨b', off' + k * 3, none⟩ = some (.int .i64 x.g) ∧ w'.cell? ⟨b', off' + k * 3 + 1, none⟩ = some (.int .i64 x.c) ∧ w'.cell? ⟨b', off' + k * 3 + 2, none⟩ = some (.int .i64 x.v))
        (first
          | go_keep
          | (go_split_ands
             refine ⟨?_, ?_, ?_, ?_, ?_, ?_⟩ <;> (refine cellB ?_ c1; assumption)))
        (first
          | (go_at_call 12; refine (RF.out _).mono ?_; rintro r u1 ⟨rfl, c1⟩))
      have B1 := hide (btr HB.out (btr (bdrew1 _) c1))
      clear c1
      go_wp2_with fail
      go_roundw
      case rel => exact ⟨k + 1, by omega, by go_num, B1.out⟩
      case measure => simp [intOf]; omega
    · have hlt' : ¬ ((k : Int) < (l.length : Int)) := by omega
      have HB := hide hb
      clear hb
      go_wp2_with fail
      go_ret
      exact ⟨rfl, HB.out⟩
end Pe
end Go.Proofs.Ytiefaihflmogpab
