/- The reference's Bare, over this seat's program. -/
import Derived.Test.YtgnhophlnbpcgaaHt
import Derived.Test.YtgnhophlnbpcgaaDo
namespace Go.Proofs.Ytgnhophlnbpcgaa
open Go.ChangeShapes Go.WideShapes Go.ChangeAt Go.RowKit
namespace Sh
open De Ba Re

set_option maxRecDepth 100000 in
set_option maxHeartbeats 1600000 in
theorem rbare_any (oa : Option Addr) (l : List Int) (c : Nat) (w : World) (hA : At w oa l) (hl : l.length ≤ 1000) :
    Calls Try.prog 25 #[.slice oa l.length c] w fun r w' => NA r w' (bar l) ∧ Below w.heap.size w w' := by
  have HA := hide hA
  clear hA
  obtain ⟨i0, hi, hz0, hz1, hz2⟩ := info_parts info_int
  have INF := hide (And.intro hi (And.intro hz0 (And.intro hz1 hz2)))
  clear hi hz0 hz1 hz2
  go_enter Try.func25, Try.ntmps25
  go_wp2_with fail
  go_loopw [3, 8] (fun o i wr => ∃ (j : Nat) (v : Value), j ≤ l.length ∧ i = .int .i64 (j : Int) ∧ o = v ∧ wr.ownsRow w.heap.size 3 1 v (bar (l.take j)).length ((bar (l.take j)).map (Value.int .i64)) ∧ Below w.heap.size w wr) (fun _ i _ => l.length - (intOf i).toNat)
  case atStart => exact ⟨0, _, Nat.zero_le _, rfl, rfl, World.ownsRow_nil _ _ _ _, Below.refl _ _⟩
  case round =>
    obtain ⟨j, v, hj, rfl, rfl, hown, hb⟩ := hrel
    by_cases hlt : j < l.length
    · have hlt' : (j : Int) < (l.length : Int) := by omega
      obtain ⟨b', off, e, q1⟩ := (HA.out.below hb) j hlt
      subst e
      have EX := hide (bar_take l j hlt)
      have hbl := bar_len l j
      obtain ⟨x, hx⟩ : ∃ x, nth l j = x := ⟨_, rfl⟩
      rw [hx] at q1 EX
      clear hx
      obtain ⟨X, hX⟩ : ∃ X : List Int, bar (l.take j) = X := ⟨_, rfl⟩
      rw [hX] at hown EX hbl
      clear hX
      cases hm : x == -1
      · have hm' : (x != -1) = true := by simp [bne, hm]
        have EY : Hid (bar (l.take (j + 1)) = X ++ [x]) := by
          show _ = _
          have := EX.out
          rw [hm] at this
          exact this
        have BB := below_alloc wr (.cells #[.int .i64 x] 3)
        have OW := hide (owns_below hown BB)
        have HB := hide (btr hb BB)
        clear hown hb BB EX
        go_wp2_with (at_builtin; refine wpList_append_own _ rfl _ _ 36 rfl w.heap.size 3 i0 (.int .i64 0) 1 8 Try.underlying36 INF.out.1 INF.out.2.1 INF.out.2.2.1 INF.out.2.2.2 rfl (by decide) _ _ _ rfl OW.out ⟨wr.heap.size, 0, none⟩ 1 1 [.int .i64 x] rfl rfl ?c1 ?c2 ?c3 ?c4 ?c5 ?_)
        case c1 => exact src_new wr [x]
        case c2 => first | rfl | (intro u hu; simp at hu; subst hu; rfl)
        case c3 => unfold maxLen; omega
        case c4 => omega
        case c5 => first | exact HB.out.size | (have := HB.out.size; rw [World.size_alloc] at this; exact this)
        intro v' w3 hown' hgrow _
        have B3 : Hid (Below w.heap.size w w3) := HB.out.grown hgrow HB.out.size (fun x hx => (OW.out.lt x hx).1)
        have O3 : Hid (w3.ownsRow w.heap.size 3 1 v' (bar (l.take (j + 1))).length ((bar (l.take (j + 1))).map (Value.int .i64))) := by
          show World.ownsRow _ _ _ _ _ _ _
          rw [EY.out, List.map_append, List.length_append]
          exact hown'
        clear hown' hgrow
        go_wp2_with fail
        go_roundw
        case rel =>
          first
            | exact ⟨j + 1, v', by omega, by go_num, rfl, O3.out, B3.out⟩
            | ((repeat apply Exists.intro); exact ⟨⟨j + 1, v', by omega, by go_num, rfl, O3.out, B3.out⟩, rfl⟩)
        case measure => simp [intOf]; omega
      · have hm' : (x != -1) = false := by simp [bne, hm]
        have EY : Hid (bar (l.take (j + 1)) = X) := by
          show _ = _
          have := EX.out
          rw [hm] at this
          simpa using this
        have O3 := hide hown
        rw [← EY.out] at O3
        have B3 := hide hb
        clear hown hb EX
        go_wp2_with fail
        go_roundw
        case rel =>
          first
            | exact ⟨j + 1, _, by omega, by go_num, rfl, O3.out, B3.out⟩
            | exact ⟨j + 1, by omega, by go_num, O3.out, B3.out⟩
        case measure => simp [intOf]; omega
    · have hlt' : ¬ ((j : Int) < (l.length : Int)) := by omega
      rw [List.take_of_length_le (by omega)] at hown
      obtain ⟨oa', c', hv', hat'⟩ := owns_at hown
      subst hv'
      have AT := hide hat'
      have HB := hide hb
      clear hown hat' hb
      go_wp2_with fail
      go_ret
      exact ⟨⟨_, _, rfl, AT.out⟩, HB.out⟩
end Sh
end Go.Proofs.Ytgnhophlnbpcgaa
