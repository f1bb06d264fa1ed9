/- Package clock: own(), over this seat's program. -/
import Derived.Test.YtodppbahihjegaaCw
namespace Go.Proofs.Ytodppbahihjegaa
open Go.ChangeShapes Go.WideShapes Go.ChangeAt Go.RowKit
namespace Ck

theorem hide {p : Prop} (h : p) : Hid p := h
/-- k noughts -/
def zer (k : Nat) : List Value := List.replicate k (.int .i64 0)
theorem zer_at (k i : Nat) (h : i < k) : (zer k)[i]? = some (.int .i64 0) := by simp [zer, h]
theorem zeroCells_is (k : Nat) : Builtin.zeroCells #[Value.int .i64 0] k = (zer k).toArray := by
  apply Array.ext'
  simp only [Builtin.zeroCells, zer]
  apply List.ext_getElem
  · simp
  · intro i h1 h2
    simp [Nat.mod_one]

set_option maxRecDepth 100000 in
theorem run_grow (w : World) (oa : Option Addr) (l : List Int) (cap k : Nat) (ty : TypeId) (hA : At w oa l) (hk : 0 < k) (hg : cap < l.length + k) (hm : l.length + k ≤ 256) :
    ∃ cap', l.length + k ≤ cap' ∧ cap' ≤ maxLen ∧ (Builtin.append_ #[46, 3] ty #[.slice oa l.length cap, .int .i64 (k : Int)]).run Try.prog w = .ok (.slice (some ⟨w.heap.size, 0, none⟩) (l.length + k) cap') (w.drew.alloc (.cells (row l ++ (zer (cap' - l.length)).toArray) 3)) := by
  obtain ⟨i0, hi, hz0, hz1, hz2⟩ := info_parts info_int
  refine ⟨grownCap w (l.length + k) cap 3, grownCap_ge _ _ _ _, grownCap_le_maxLen _ _ _ _ (by unfold maxLen; omega), ?_⟩
  have hold : (Builtin.firstCells i0.size l.length (.slice oa l.length cap)).run Try.prog w.drew = .ok (row l) w.drew := by
    rcases hA.ways with h0 | ⟨b, off, rfl, hc⟩
    · subst h0
      cases oa with
      | none => rfl
      | some a =>
        have := run_loadCells_list (P := Try.prog) w.drew a [] (by simp)
        simpa [Builtin.firstCells, row] using this
    · have := run_loadCells_list (P := Try.prog) w.drew ⟨b, off, none⟩ (l.map (Value.int .i64)) (by
        intro j v hj
        have hjl : j < l.length := by
          have := (List.getElem?_eq_some_iff.1 hj).1
          simpa using this
        have hv : v = .int .i64 (nth l j) := by
          rw [nth_lt l j hjl]
          simp [hjl] at hj
          exact hj.symm
        rw [hv, ← hc j hjl, Addr.add_lit]
        rfl)
      simpa [Builtin.firstCells, hz1, row] using this
  have hncap : Builtin.nextslicecap (l.length + k) cap ≤ 1024 := by
    unfold Builtin.nextslicecap
    split
    · omega
    · split
      · omega
      · omega
  have := Lib.run_append_grow_zeros (P := Try.prog) w 46 3 ty 3 i0 (.int .i64 0) .i64 .i64 Try.underlying46 Try.underlying3 hi hz0 oa l.length cap (l.map (Value.int .i64)) hold k hk (by omega) hg (by omega) (by rw [hz2]; omega) (by rw [hz2]; omega)
  rw [this]
  have hge := grownCap_ge w (l.length + k) cap 3
  have e1 : (Value.int .i64 0).cells = #[Value.int .i64 0] := rfl
  rw [e1, zeroCells_is, zeroCells_is]
  congr 3
  apply Array.ext'
  simp [row, zer]
  omega

theorem run_room (w : World) (g n cap k : Nat) (cur : Array Value) (ty : TypeId) (hc : w.heap[g]? = some (.cells cur 3 (0, 0))) (hk : 0 < k) (hr : n + k ≤ cap) (hs : cap ≤ cur.size) (hm : k ≤ 256) :
    (Builtin.append_ #[46, 3] ty #[.slice (some ⟨g, 0, none⟩) n cap, .int .i64 (k : Int)]).run Try.prog w = .ok (.slice (some ⟨g, 0, none⟩) (n + k) cap) (w.setRow g (cur.toList.take n ++ zer k ++ cur.toList.drop (n + k)).toArray) := by
  obtain ⟨i0, hi, hz0, hz1, hz2⟩ := info_parts info_int
  have hk' : k ≠ 0 := by omega
  have hw : IntKind.i64.wrap (k : Int) = k := by rw [IntKind.wrap_i64]; omega
  have hneg : ¬ ((k : Int) < 0) := by omega
  have h48 : ¬ (281474976710656 < (k : Int) * 8) := by omega
  have hst := run_storeCells_at Try.prog g n 3 (zer k) 0 cur w hc (by simp [zer]; omega) (by intro v hv; simp [zer] at hv; rw [hv.2]; rfl)
  have e1 : (Value.int .i64 0).cells = #[Value.int .i64 0] := rfl
  simp [Builtin.append_, run_underlying Try.underlying46, run_underlying Try.underlying3, sizeOf, typeInfo, zeroValue, hi, hz0, hz1, hz2, asInt, asIntOf, hw, hneg, hk', h48, hr, e1, zeroCells_is, Addr.add_lit]
  simp at hst
  rw [hst]
  simp [Result.andThen, zer]

/-- both cells of a clock's block, written -/
theorem head2 {W : World} {b : Nat} {v0 u0 : Value} {t : TypeId} (h : W.heap[b]? = some (.cells #[v0, u0] t (0, 0))) (v u : Value) :
    ((W.setCell ⟨b, 0, none⟩ v).setCell ⟨b, 1, none⟩ u).heap[b]? = some (.cells #[v, u] t (0, 0)) :=
  heap_setCell_same (heap_setCell_same h v) u
theorem other2 (W : World) (b : Nat) (v u : Value) (x : Nat) (h : x ≠ b) : ((W.setCell ⟨b, 0, none⟩ v).setCell ⟨b, 1, none⟩ u).heap[x]? = W.heap[x]? :=
  (Below.heap_setCell _ _ _ _ h).trans (Below.heap_setCell _ _ _ _ h)
theorem size2 (W : World) (b : Nat) (v u : Value) : ((W.setCell ⟨b, 0, none⟩ v).setCell ⟨b, 1, none⟩ u).heap.size = W.heap.size := by simp [World.setCell]

/-- what own leaves -/
def Owned (w : World) (b : Nat) (l : List Int) (s : Bool) (g : Option Nat) (n : Nat) (w' : World) : Prop :=
  ∃ g' cap', Rep w' b (pad l n) false g' cap' ∧ ((s = false ∧ g' = g) ∨ ∃ x, g' = some x ∧ w.heap.size ≤ x) ∧ Fr (Mine b s g) w w'

theorem owned_keep {b : Nat} {l : List Int} {g : Option Nat} {cap n : Nat} {w : World} (h : Rep w b l false g cap) (hn : n ≤ l.length) :
    Owned w b l false g n (w.setCell ⟨b, 1, none⟩ (.bool false)) := by
  refine ⟨g, cap, ?_, .inl ⟨rfl, rfl⟩, (Fr.refl _ _).setCell (.inl (.inl rfl)) _⟩
  rw [pad_same l n hn]
  refine h.keep ?_ ?_
  · rw [heap_setCell_same h.head, h.head]
    rfl
  · intro x hx
    exact Below.heap_setCell _ _ _ _ (h.data x hx).1

theorem owned_new {b : Nat} {l : List Int} {s : Bool} {g : Option Nat} {cap cap' n m : Nat} {w : World} {O : Array Value} (h : Rep w b l s g cap) (hm : m ≤ 256) (hml : (pad l n).length = m) (hc : m ≤ cap') (hx : cap' ≤ maxLen) (hs : cap' ≤ O.size) (hd : ∀ k, k < m → O[k]? = some (.int .i64 (nth l k))) {W : World}
    (hW : W.heap = (((w.setCell ⟨b, 0, none⟩ (.slice (some ⟨w.heap.size, 0, none⟩) m cap')).setCell ⟨b, 1, none⟩ (.bool false)).alloc (.cells O 3)).heap) (hF : Fr (Mine b s g) w W) :
    Owned w b l s g n W := by
  have hb := h.lt
  have hsz := size2 w b (.slice (some ⟨w.heap.size, 0, none⟩) m cap') (.bool false)
  refine ⟨some w.heap.size, cap', ⟨?_, by omega, by omega, hx, fun e => by simp at e, fun e => by simp at e, ?_⟩, .inr ⟨_, rfl, Nat.le_refl _⟩, hF⟩
  · rw [hW, Below.heap_alloc _ _ _ (by omega), head2 h.head, hml]
    rfl
  · intro x hx
    simp at hx
    subst hx
    refine ⟨by omega, O, ?_, hs, fun k hk => ?_⟩
    · rw [hW]
      have := heap_new ((w.setCell ⟨b, 0, none⟩ (.slice (some ⟨w.heap.size, 0, none⟩) m cap')).setCell ⟨b, 1, none⟩ (.bool false)) (.cells O 3)
      rw [hsz] at this
      exact this
    · rw [nth_pad]
      exact hd k (by omega)

end Ck
end Go.Proofs.Ytodppbahihjegaa
