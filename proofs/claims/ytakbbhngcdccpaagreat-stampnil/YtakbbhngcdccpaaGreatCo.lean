/- Package clock: own(), over this seat's program. -/
import Derived.Test.YtakbbhngcdccpaaGreatCw
namespace Go.Proofs.YtakbbhngcdccpaaGreat
open Go.ChangeShapes Go.WideShapes Go.ChangeAt Go.RowKit
namespace Ck

theorem hide {p : Prop} (h : p) : Hid p := h
/-- k noughts -/
def zer (k : Nat) : List Value := List.replicate k (.int .i64 0)
theorem zer_at (k i : Nat) (h : i < k) : (zer k)[i]? = some (.int .i64 0) := by simp [zer, h]
theorem zeroCells_is (k : Nat) : Builtin.zeroCells #[Value.int .i64 0] k = (zer k).toArray := by
  apply Array.ext'
  simp only [Builtin.zeroCells, zer]
  apply List.ext_getElem
  · simp
  · intro i h1 h2
    simp [Nat.mod_one]

set_option maxRecDepth 100000 in
theorem run_grow (w : World) (oa : Option Addr) (l : List Int) (cap k : Nat) (ty : TypeId) (hA : At w oa l) (hk : 0 < k) (hg : cap < l.length + k) (hm : l.length + k ≤ 256) :
    ∃ cap', l.length + k ≤ cap' ∧ cap' ≤ maxLen ∧ (Builtin.append_ #[27, 3] ty #[.slice oa l.length cap, .int .i64 (k : Int)]).run Tryz.prog w = .ok (.slice (some ⟨w.heap.size, 0, none⟩) (l.length + k) cap') (w.drew.alloc (.cells (row l ++ (zer (cap' - l.length)).toArray) 3)) := by
  obtain ⟨i0, hi, hz0, hz1, hz2⟩ := info_parts info_int
  refine ⟨grownCap w (l.length + k) cap 3, grownCap_ge _ _ _ _, grownCap_le_maxLen _ _ _ _ (by unfold maxLen; omega), ?_⟩
  have hold : (Builtin.firstCells i0.size l.length (.slice oa l.length cap)).run Tryz.prog w.drew = .ok (row l) w.drew := by
    rcases hA.ways with h0 | ⟨b, off, rfl, hc⟩
    · subst h0
      cases oa with
      | none => rfl
      | some a =>
        have := run_loadCells_list (P := Tryz.prog) w.drew a [] (by simp)
        simpa [Builtin.firstCells, row] using this
    · have := run_loadCells_list (P := Tryz.prog) w.drew ⟨b, off, none⟩ (l.map (Value.int .i64)) (by
        intro j v hj
        have hjl : j < l.length := by
          have := (List.getElem?_eq_some_iff.1 hj).1
          simpa using this
        have hv : v = .int .i64 (nth l j) := by
          rw [nth_lt l j hjl]
          simp [hjl] at hj
          exact hj.symm
        rw [hv, ← hc j hjl, Addr.add_lit]
        rfl)
      simpa [Builtin.firstCells, hz1, row] using this
  have hncap : Builtin.nextslicecap (l.length + k) cap ≤ 1024 := by
    unfold Builtin.nextslicecap
    split
    · omega
    · split
      · omega
      · omega
  have := Lib.run_append_grow_zeros (P := Tryz.prog) w 27 3 ty 3 i0 (.int .i64 0) .i64 .i64 Tryz.underlying27 Tryz.underlying3 hi hz0 oa l.length cap (l.map (Value.int .i64)) hold k hk (by omega) hg (by omega) (by rw [hz2]; omega) (by rw [hz2]; omega)
  rw [this]
  have hge := grownCap_ge w (l.length + k) cap 3
  have e1 : (Value.int .i64 0).cells = #[Value.int .i64 0] := rfl
  rw [e1, zeroCells_is, zeroCells_is]
  congr 3
  apply Array.ext'
  simp [row, zer]
  omega

theorem run_room (w : World) (g n cap k : Nat) (cur : Array Value) (ty : TypeId) (hc : w.heap[g]? = some (.cells cur 3 (0, 0))) (hk : 0 < k) (hr : n + k ≤ cap) (hs : cap ≤ cur.size) (hm : k ≤ 256) :
    (Builtin.append_ #[27, 3] ty #[.slice (some ⟨g, 0, none⟩) n cap, .int .i64 (k : Int)]).run Tryz.prog w = .ok (.slice (some ⟨g, 0, none⟩) (n + k) cap) (w.setRow g (cur.toList.take n ++ zer k ++ cur.toList.drop (n + k)).toArray) := by
  obtain ⟨i0, hi, hz0, hz1, hz2⟩ := info_parts info_int
  have hk' : k ≠ 0 := by omega
  have hw : IntKind.i64.wrap (k : Int) = k := by rw [IntKind.wrap_i64]; omega
  have hneg : ¬ ((k : Int) < 0) := by omega
  have h48 : ¬ (281474976710656 < (k : Int) * 8) := by omega
  have hst := run_storeCells_at Tryz.prog g n 3 (zer k) 0 cur w hc (by simp [zer]; omega) (by intro v hv; simp [zer] at hv; rw [hv.2]; rfl)
  have e1 : (Value.int .i64 0).cells = #[Value.int .i64 0] := rfl
  simp [Builtin.append_, run_underlying Tryz.underlying27, run_underlying Tryz.underlying3, sizeOf, typeInfo, zeroValue, hi, hz0, hz1, hz2, asInt, asIntOf, hw, hneg, hk', h48, hr, e1, zeroCells_is, Addr.add_lit]
  simp at hst
  rw [hst]
  simp [Result.andThen, zer]

set_option maxHeartbeats 800000 in
theorem own_keep (b : Nat) (l : List Int) (g : Option Nat) (cap n : Nat) (w : World) (h : Rep w b l false g cap) (hn : n ≤ l.length) :
    Calls Tryz.prog 69 #[.pointer (some ⟨b, 0, none⟩), .int .i64 (n : Int)] w fun r w' => r = .returned (.tuple #[]) ∧ w' = w.setCell ⟨b, 1, none⟩ (.bool false) := by
  have c0 := cell_of h.head 0
  have c1 := cell_of h.head 1
  have f1 := frozen_of h.head 1
  have hl := h.len
  simp at c0 c1
  clear h
  go_enter Tryz.func69, Tryz.ntmps69
  go_wp2
  go_end0
  exact ⟨rfl, rfl⟩

set_option maxHeartbeats 800000 in
theorem own_dup (b : Nat) (l : List Int) (g : Option Nat) (cap n : Nat) (w : World) (h : Rep w b l true g cap) (hn : n ≤ l.length) :
    Calls Tryz.prog 69 #[.pointer (some ⟨b, 0, none⟩), .int .i64 (n : Int)] w fun r w' => r = .returned (.tuple #[]) ∧ w' = ((w.setCell ⟨b, 0, none⟩ (.slice (some ⟨w.heap.size, 0, none⟩) l.length l.length)).setCell ⟨b, 1, none⟩ (.bool false)).alloc (.cells (row l) 3) := by
  have c0 := cell_of h.head 0
  have c1 := cell_of h.head 1
  have f0 := frozen_of h.head 0
  have f1 := frozen_of h.head 1
  have hb := h.lt
  have hl := h.len
  have HA : Hid (At w (g.map fun g => ⟨g, 0, none⟩) l) := h.at_
  simp at c0 c1
  clear h
  go_enter Tryz.func69, Tryz.ntmps69
  go_wp2_with (go_at_call 96; refine (dup_any _ l _ _ HA.out hl).mono ?_; rintro r w' ⟨rfl, rfl⟩)
  go_end0
  exact ⟨rfl, rfl⟩

set_option maxHeartbeats 800000 in
theorem own_room (b : Nat) (l : List Int) (g cap n : Nat) (w W : World) (h : Rep w b l false (some g) cap) (hn : l.length < n) (hm : n ≤ 256)
    (hrun : (Builtin.append_ #[27, 3] 27 #[.slice (some ⟨g, 0, none⟩) l.length cap, .int .i64 ((n : Int) - (l.length : Int))]).run Tryz.prog w = .ok (.slice (some ⟨g, 0, none⟩) n cap) W)
    (hh : W.heap[b]? = w.heap[b]?) :
    Calls Tryz.prog 69 #[.pointer (some ⟨b, 0, none⟩), .int .i64 (n : Int)] w fun r w' => r = .returned (.tuple #[]) ∧ w' = (W.setCell ⟨b, 0, none⟩ (.slice (some ⟨g, 0, none⟩) n cap)).setCell ⟨b, 1, none⟩ (.bool false) := by
  have c0 := cell_of h.head 0
  have hh2 := hh.trans h.head
  have d0 := cell_of hh2 0
  have d1 := cell_of hh2 1
  have f0 := frozen_of hh2 0
  have f1 := frozen_of hh2 1
  have hl := h.len
  simp at c0 d0 d1
  have HR := hide hrun
  clear h hh hh2 hrun
  go_enter Tryz.func69, Tryz.ntmps69
  go_wp2_with (at_builtin; refine Lib.wpList_append_run _ rfl _ _ 27 3 rfl _ _ rfl rfl _ _ HR.out ?_)
  go_end0
  exact ⟨rfl, rfl⟩

set_option maxHeartbeats 800000 in
theorem own_grow (b : Nat) (l : List Int) (s : Bool) (g : Option Nat) (cap cap' n : Nat) (w : World) (O : Array Value) (h : Rep w b l s g cap) (hn : l.length < n) (hm : n ≤ 256)
    (hrun : (Builtin.append_ #[27, 3] 27 #[.slice (g.map fun g => ⟨g, 0, none⟩) l.length cap, .int .i64 ((n : Int) - (l.length : Int))]).run Tryz.prog w = .ok (.slice (some ⟨w.heap.size, 0, none⟩) n cap') (w.drew.alloc (.cells O 3))) :
    Calls Tryz.prog 69 #[.pointer (some ⟨b, 0, none⟩), .int .i64 (n : Int)] w fun r w' => r = .returned (.tuple #[]) ∧ w' = (((w.setCell ⟨b, 0, none⟩ (.slice (some ⟨w.heap.size, 0, none⟩) n cap')).setCell ⟨b, 1, none⟩ (.bool false)).alloc (.cells O 3)).drew := by
  have c0 := cell_of h.head 0
  have c1 := cell_of h.head 1
  have f0 := frozen_of h.head 0
  have f1 := frozen_of h.head 1
  have hb := h.lt
  have hl := h.len
  simp at c0 c1
  have HR := hide hrun
  clear h hrun
  go_enter Tryz.func69, Tryz.ntmps69
  go_wp2_with (at_builtin; refine Lib.wpList_append_run _ rfl _ _ 27 3 rfl _ _ rfl rfl _ _ HR.out ?_)
  go_end0
  exact ⟨rfl, rfl⟩

/-- both cells of a clock's block, written -/
theorem head2 {W : World} {b : Nat} {v0 u0 : Value} {t : TypeId} (h : W.heap[b]? = some (.cells #[v0, u0] t (0, 0))) (v u : Value) :
    ((W.setCell ⟨b, 0, none⟩ v).setCell ⟨b, 1, none⟩ u).heap[b]? = some (.cells #[v, u] t (0, 0)) :=
  heap_setCell_same (heap_setCell_same h v) u
theorem other2 (W : World) (b : Nat) (v u : Value) (x : Nat) (h : x ≠ b) : ((W.setCell ⟨b, 0, none⟩ v).setCell ⟨b, 1, none⟩ u).heap[x]? = W.heap[x]? :=
  (Below.heap_setCell _ _ _ _ h).trans (Below.heap_setCell _ _ _ _ h)
theorem size2 (W : World) (b : Nat) (v u : Value) : ((W.setCell ⟨b, 0, none⟩ v).setCell ⟨b, 1, none⟩ u).heap.size = W.heap.size := by simp [World.setCell]

/-- what own leaves -/
def Owned (w : World) (b : Nat) (l : List Int) (s : Bool) (g : Option Nat) (n : Nat) (w' : World) : Prop :=
  ∃ g' cap', Rep w' b (pad l n) false g' cap' ∧ ((s = false ∧ g' = g) ∨ ∃ x, g' = some x ∧ w.heap.size ≤ x) ∧ Fr (Mine b s g) w w'

theorem owned_keep {b : Nat} {l : List Int} {g : Option Nat} {cap n : Nat} {w : World} (h : Rep w b l false g cap) (hn : n ≤ l.length) :
    Owned w b l false g n (w.setCell ⟨b, 1, none⟩ (.bool false)) := by
  refine ⟨g, cap, ?_, .inl ⟨rfl, rfl⟩, (Fr.refl _ _).setCell (.inl (.inl rfl)) _⟩
  rw [pad_same l n hn]
  refine h.keep ?_ ?_
  · rw [heap_setCell_same h.head, h.head]
    rfl
  · intro x hx
    exact Below.heap_setCell _ _ _ _ (h.data x hx).1

theorem owned_new {b : Nat} {l : List Int} {s : Bool} {g : Option Nat} {cap cap' n m : Nat} {w : World} {O : Array Value} (h : Rep w b l s g cap) (hm : m ≤ 256) (hml : (pad l n).length = m) (hc : m ≤ cap') (hx : cap' ≤ maxLen) (hs : cap' ≤ O.size) (hd : ∀ k, k < m → O[k]? = some (.int .i64 (nth l k))) {W : World}
    (hW : W.heap = (((w.setCell ⟨b, 0, none⟩ (.slice (some ⟨w.heap.size, 0, none⟩) m cap')).setCell ⟨b, 1, none⟩ (.bool false)).alloc (.cells O 3)).heap) (hF : Fr (Mine b s g) w W) :
    Owned w b l s g n W := by
  have hb := h.lt
  have hsz := size2 w b (.slice (some ⟨w.heap.size, 0, none⟩) m cap') (.bool false)
  refine ⟨some w.heap.size, cap', ⟨?_, by omega, by omega, hx, fun e => by simp at e, fun e => by simp at e, ?_⟩, .inr ⟨_, rfl, Nat.le_refl _⟩, hF⟩
  · rw [hW, Below.heap_alloc _ _ _ (by omega), head2 h.head, hml]
    rfl
  · intro x hx
    simp at hx
    subst hx
    refine ⟨by omega, O, ?_, hs, fun k hk => ?_⟩
    · rw [hW]
      have := heap_new ((w.setCell ⟨b, 0, none⟩ (.slice (some ⟨w.heap.size, 0, none⟩) m cap')).setCell ⟨b, 1, none⟩ (.bool false)) (.cells O 3)
      rw [hsz] at this
      exact this
    · rw [nth_pad]
      exact hd k (by omega)

theorem own_any (b : Nat) (l : List Int) (s : Bool) (g : Option Nat) (cap n : Nat) (w : World) (h : Rep w b l s g cap) (hn : n ≤ 256) :
    Calls Tryz.prog 69 #[.pointer (some ⟨b, 0, none⟩), .int .i64 (n : Int)] w fun r w' => r = .returned (.tuple #[]) ∧ Owned w b l s g n w' := by
  by_cases hl : n ≤ l.length
  · cases s
    · refine (own_keep b l g cap n w h hl).mono ?_
      rintro r w' ⟨rfl, rfl⟩
      exact ⟨rfl, owned_keep h hl⟩
    · refine (own_dup b l g cap n w h hl).mono ?_
      rintro r w' ⟨rfl, rfl⟩
      refine ⟨rfl, owned_new h h.len (by rw [pad_same l n hl]) (Nat.le_refl _) (Nat.le_trans h.le h.mx) (Nat.le_of_eq (row_size l).symm) (fun k hk => row_at l k hk) rfl ?_⟩
      exact (((Fr.refl _ _).setCell (.inl (.inl rfl)) _).setCell (.inl (.inl rfl)) _).alloc _
  · obtain ⟨k, rfl⟩ : ∃ k, n = l.length + k := ⟨n - l.length, by omega⟩
    have hk : 0 < k := by omega
    have e : ((l.length + k : Nat) : Int) - (l.length : Int) = (k : Int) := by omega
    by_cases hr : l.length + k ≤ cap
    · have hs : s = false := by
        cases s
        · rfl
        · have := h.sh rfl; omega
      subst hs
      cases g with
      | none => have := h.nil rfl; omega
      | some x =>
        obtain ⟨hne, cur, hc, hcs, hcd⟩ := h.data x rfl
        have hrun := run_room w x l.length cap k cur 27 hc hk hr hcs (by omega)
        rw [← e] at hrun
        have hW : (w.setRow x (cur.toList.take l.length ++ zer k ++ cur.toList.drop (l.length + k)).toArray).heap[b]? = w.heap[b]? := setRow_other _ _ _ _ (fun q => hne q.symm)
        refine (own_room b l x cap (l.length + k) w _ h (by omega) hn hrun hW).mono ?_
        rintro r w' ⟨rfl, rfl⟩
        refine ⟨rfl, some x, cap, ⟨?_, by rw [pad_length]; omega, by rw [pad_length]; omega, h.mx, fun q => by simp at q, fun q => by simp at q, ?_⟩, .inl ⟨rfl, rfl⟩, ?_⟩
        · rw [head2 (hW.trans h.head), pad_length]
          have : max l.length (l.length + k) = l.length + k := by omega
          rw [this]
          rfl
        · intro y hy
          simp at hy
          subst hy
          refine ⟨hne, _, (other2 _ _ _ _ _ hne).trans (setRow_heap _ _ _ _ _ _ hc), ?_, fun j hj => ?_⟩
          · simp [zer]; omega
          · rw [pad_length] at hj
            rw [nth_pad]
            by_cases hjl : j < l.length
            · have := hcd j hjl
              rw [← this]
              have hj2 : j < cur.size := by omega
              simp [List.getElem?_append, hjl, hj2]
              omega
            · rw [nth_out l j (by omega)]
              have h1 : (cur.toList.take l.length).length = l.length := by simp; omega
              have h2 : j - l.length < (zer k).length := by simp [zer]; omega
              simp only [List.getElem?_toArray]
              rw [List.append_assoc, List.getElem?_append_right (by omega), h1, List.getElem?_append_left h2]
              exact zer_at k _ (by omega)
        · exact (((Fr.refl _ _).setRow (.inr ⟨rfl, rfl⟩) _).setCell (.inl (.inl rfl)) _).setCell (.inl (.inl rfl)) _
    · obtain ⟨cap', h1, h2, hrun⟩ := run_grow w _ l cap k 27 h.at_ hk (by omega) hn
      rw [← e] at hrun
      refine (own_grow b l s g cap cap' (l.length + k) w _ h (by omega) hn hrun).mono ?_
      rintro r w' ⟨rfl, rfl⟩
      refine ⟨rfl, owned_new h hn (by rw [pad_length]; omega) h1 h2 (by simp [row_size, zer]; omega) (fun j hj => ?_) rfl ?_⟩
      · by_cases hjl : j < l.length
        · rw [Array.getElem?_append_left (by rw [row_size]; exact hjl)]
          exact row_at l j hjl
        · rw [nth_out l j (by omega), Array.getElem?_append_right (by rw [row_size]; omega), row_size, List.getElem?_toArray]
          exact zer_at _ _ (by omega)
      · exact ((((Fr.refl _ _).setCell (.inl (.inl rfl)) _).setCell (.inl (.inl rfl)) _).alloc _).drew
end Ck
end Go.Proofs.YtakbbhngcdccpaaGreat
