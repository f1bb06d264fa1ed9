/- The reference's pew, over this seat's program: Drop. -/
import Derived.Test.YtiefaihflmogpabVi
namespace Go.Proofs.Ytiefaihflmogpab
open Go.ChangeShapes Go.WideShapes Go.ChangeAt Go.RowKit
namespace Pe
open Ba
theorem dr_take {g : Int} {l : List Wt} {k : Nat} {x : Wt} (h : l[k]? = some x) : dr g (l.take (k + 1)) = if (x.g == g) = true then dr g (l.take k) else dr g (l.take k) ++ [x] := by
  unfold dr
  rw [List.take_add_one, h, List.filter_append]
  cases hg : x.g == g <;> simp [hg]
set_option maxRecDepth 100000 in
set_option maxHeartbeats 1600000 in
theorem rdrop_any (G : Nat) (l : List Wt) (g : Int) (w : World) (h : RP w G l) :
    Calls Try.prog 16 #[.pointer (some ⟨G, 0, none⟩), .int .i64 g] w fun r w' => r = .returned (.int .i64 ((l.length : Int) - ((dr g l).length : Int))) ∧ RP w' G (dr g l) ∧ FT G 37 w w' := by
  have hle := h.le
  obtain ⟨oa, c, h1, hA, _⟩ := h.at
  have y0 := cell_of h1 0
  simp at y0
  have HA := hide hA
  have HG := hide h1
  have hG := heap_lt h1
  clear h h1 hA
  cases hi : Try.prog.info? 37 with
  | none => have := info_rw; rw [hi] at this; cases this
  | some i0 =>
  have hx2 := info_rw
  rw [hi] at hx2
  simp at hx2
  have INF := hide (And.intro hi hx2)
  clear hx2 hi
  go_enter Try.func16, Try.ntmps16
  go_wp2_with fail
  go_loopw [5, 14] (fun rv i wr => ∃ (v : Value) (k : Nat), k ≤ l.length ∧ i = .int .i64 k ∧ rv = v ∧ wr.ownsRow w.heap.size 37 3 v (dr g (l.take k)).length (wc (dr g (l.take k))) ∧ Below w.heap.size w wr) (fun _ i _ => l.length - (intOf i).toNat)
  case atStart => exact ⟨_, 0, Nat.zero_le _, rfl, rfl, World.ownsRow_nil _ _ _ _, Below.refl _ _⟩
  case round =>
    obtain ⟨v, k, hk, rfl, rfl, ho, hb⟩ := hrel
    by_cases hlt : k < l.length
    · have hlt' : (k : Int) < (l.length : Int) := by omega
      obtain ⟨x, hx⟩ : ∃ x, l[k]? = some x := ⟨_, List.getElem?_eq_getElem hlt⟩
      obtain ⟨b, off, rfl, q0, q1, q2⟩ := HA.out.below hb k x hx
      have DT := hide (dr_take (g := g) hx)
      have hdl : (dr g (l.take k)).length ≤ k := by
        have h1 := dr_len g (l.take k)
        have h2 := List.length_take_le k l
        omega
      clear hx
      obtain ⟨X, hX⟩ : ∃ X, X = dr g (l.take k) := ⟨_, rfl⟩
      rw [← hX] at DT hdl ho
      clear hX
      have BX := below_alloc wr (.cells #[.int .i64 x.g, .int .i64 x.c, .int .i64 x.v] 37)
      cases hg : x.g == g
      · have hg' : (x.g != g) = true := by simp [bne, hg]
        have EX : Hid (dr g (l.take (k + 1)) = X ++ [x]) := by
          show _ = _
          have := DT.out
          rw [hg] at this
          simpa using this
        have OW1 := own_below ho BX
        have HB1 := btr hb BX
        clear ho hb BX DT
        have BY := below_alloc (wr.alloc (.cells #[.int .i64 x.g, .int .i64 x.c, .int .i64 x.v] 37)) (.cells #[.int .i64 x.g, .int .i64 x.c, .int .i64 x.v] 37)
        have OW := hide (own_below OW1 BY)
        have HB := hide (btr HB1 BY)
        have SR := src3 (wr.alloc (.cells #[.int .i64 x.g, .int .i64 x.c, .int .i64 x.v] 37)) x 37
        rw [World.size_alloc] at SR
        have SRC := hide SR
        clear OW1 HB1 BY SR
        go_wp2_with (at_builtin; refine wpList_append_own _ rfl _ _ 27 rfl w.heap.size 37 i0 (wv ⟨0, 0, 0⟩) 3 24 Try.underlying27 INF.out.1 INF.out.2.1 INF.out.2.2.1 INF.out.2.2.2 rfl (by decide) _ _ _ rfl OW.out ⟨wr.heap.size + 1, 0, none⟩ 1 1 (wc [x]) rfl rfl ?c1 ?c2 ?c3 ?c4 ?c5 ?_)
        case c1 => first | exact SRC.out | exact fun j u hj => hj
        case c2 => exact wc_one _
        case c3 => unfold maxLen; omega
        case c4 => omega
        case c5 => first | exact HB.out.size | (have := HB.out.size; rw [World.size_alloc, World.size_alloc] at this; exact this)
        intro v' w3 ho hg3 _
        have B3 : Hid (Below w.heap.size w w3) := HB.out.grown hg3 HB.out.size (fun x hx => (OW.out.lt x hx).1)
        have O3 : Hid (w3.ownsRow w.heap.size 37 3 v' (dr g (l.take (k + 1))).length (wc (dr g (l.take (k + 1))))) := by
          show World.ownsRow _ _ _ _ _ _ _
          rw [EX.out, wc_app, List.length_append]
          exact ho
        clear ho hg3
        go_wp2_with fail
        go_roundw
        case rel =>
          first
            | exact ⟨v', k + 1, by omega, by go_num, rfl, O3.out, B3.out⟩
            | ((repeat apply Exists.intro); exact ⟨⟨v', k + 1, by omega, by go_num, rfl, O3.out, B3.out⟩, rfl⟩)
        case measure => simp [intOf]; omega
      · have hg' : (x.g != g) = false := by simp [bne, hg]
        have EX : Hid (dr g (l.take (k + 1)) = X) := by
          show _ = _
          have := DT.out
          rw [hg] at this
          simpa using this
        have O3 : Hid ((wr.alloc (.cells #[.int .i64 x.g, .int .i64 x.c, .int .i64 x.v] 37)).ownsRow w.heap.size 37 3 u5 (dr g (l.take (k + 1))).length (wc (dr g (l.take (k + 1))))) := by
          show World.ownsRow _ _ _ _ _ _ _
          rw [EX.out]
          exact own_below ho BX
        have B3 := hide (btr hb BX)
        clear ho hb BX DT
        go_wp2_with fail
        go_roundw
        case rel =>
          first
            | exact ⟨_, k + 1, by omega, by go_num, rfl, O3.out, B3.out⟩
            | exact ⟨k + 1, by omega, by go_num, O3.out, B3.out⟩
        case measure => simp [intOf]; omega
    · have hlt' : ¬ ((k : Int) < (l.length : Int)) := by omega
      rw [List.take_of_length_le (by omega)] at ho
      have hdl := dr_len g l
      obtain ⟨X, hX⟩ : ∃ X, X = dr g l := ⟨_, rfl⟩
      rw [← hX] at ho hdl
      have HX := hide hX
      clear hX
      obtain ⟨oa', c', hv', _, _⟩ := owns_wat ho
      subst hv'
      have HO := hide ho
      have HB := hide hb
      have GW := hide (heap_below HG.out hb)
      have g0 := cell_of GW.out 0
      have gf := frozen_of GW.out 0
      simp at g0
      clear ho hb
      go_wp2_with fail
      go_ret
      have ho' : wr.ownsRow (G + 1) 37 3 (.slice oa' X.length c') X.length (wc X) := by
        refine ⟨HO.out.1, ?_⟩
        rcases HO.out.2 with q | ⟨g, cap, cur, q1, q2, q3, q4⟩
        · exact .inl q
        · exact .inr ⟨g, cap, cur, q1, by omega, q3, q4⟩
      rw [← HX.out]
      exact ⟨rfl, RP.put GW.out ho' (by omega), (FT.of (P := G) (e := 37) HB.out (by omega)).setP 0 _⟩
end Pe
end Go.Proofs.Ytiefaihflmogpab
