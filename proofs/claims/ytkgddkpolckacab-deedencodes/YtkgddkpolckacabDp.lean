/- Package deed: Releases and Names, and the reference's, over this seat's program. -/
import Derived.Test.YtkgddkpolckacabDo
namespace Go.Proofs.Ytkgddkpolckacab
open Go.ChangeShapes Go.WideShapes Go.ChangeAt Go.RowKit
namespace De
open Ba Re

def rel (k : Int) : Bool := k == 1 || (decide (3 ≤ k) && decide (k ≤ 6))
theorem rel1 (a b : Int) (d : Bool) (oa : Option Addr) (n c : Nat) (w : World) :
    Calls Try.prog 14 #[.agg #[.int .i64 1, .int .i64 a, .int .i64 b, .slice oa n c, .bool d]] w fun r w' => r = .returned (.bool true) ∧ Below w.heap.size w w' := by
  go_enter Try.func14, Try.ntmps14
  go_wp2_with fail
  go_ret
  exact ⟨rfl, below_alloc _ _⟩
theorem rel2 (a b : Int) (d : Bool) (oa : Option Addr) (n c : Nat) (w : World) :
    Calls Try.prog 14 #[.agg #[.int .i64 2, .int .i64 a, .int .i64 b, .slice oa n c, .bool d]] w fun r w' => r = .returned (.bool false) ∧ Below w.heap.size w w' := by
  go_enter Try.func14, Try.ntmps14
  go_wp2_with fail
  go_ret
  exact ⟨rfl, below_alloc _ _⟩
theorem rel3 (a b : Int) (d : Bool) (oa : Option Addr) (n c : Nat) (w : World) :
    Calls Try.prog 14 #[.agg #[.int .i64 3, .int .i64 a, .int .i64 b, .slice oa n c, .bool d]] w fun r w' => r = .returned (.bool true) ∧ Below w.heap.size w w' := by
  go_enter Try.func14, Try.ntmps14
  go_wp2_with fail
  go_ret
  exact ⟨rfl, below_alloc _ _⟩
theorem rel4 (a b : Int) (d : Bool) (oa : Option Addr) (n c : Nat) (w : World) :
    Calls Try.prog 14 #[.agg #[.int .i64 4, .int .i64 a, .int .i64 b, .slice oa n c, .bool d]] w fun r w' => r = .returned (.bool true) ∧ Below w.heap.size w w' := by
  go_enter Try.func14, Try.ntmps14
  go_wp2_with fail
  go_ret
  exact ⟨rfl, below_alloc _ _⟩
theorem rel5 (a b : Int) (d : Bool) (oa : Option Addr) (n c : Nat) (w : World) :
    Calls Try.prog 14 #[.agg #[.int .i64 5, .int .i64 a, .int .i64 b, .slice oa n c, .bool d]] w fun r w' => r = .returned (.bool true) ∧ Below w.heap.size w w' := by
  go_enter Try.func14, Try.ntmps14
  go_wp2_with fail
  go_ret
  exact ⟨rfl, below_alloc _ _⟩
theorem rel6 (a b : Int) (d : Bool) (oa : Option Addr) (n c : Nat) (w : World) :
    Calls Try.prog 14 #[.agg #[.int .i64 6, .int .i64 a, .int .i64 b, .slice oa n c, .bool d]] w fun r w' => r = .returned (.bool true) ∧ Below w.heap.size w w' := by
  go_enter Try.func14, Try.ntmps14
  go_wp2_with fail
  go_ret
  exact ⟨rfl, below_alloc _ _⟩
theorem rel7 (a b : Int) (d : Bool) (oa : Option Addr) (n c : Nat) (w : World) :
    Calls Try.prog 14 #[.agg #[.int .i64 7, .int .i64 a, .int .i64 b, .slice oa n c, .bool d]] w fun r w' => r = .returned (.bool false) ∧ Below w.heap.size w w' := by
  go_enter Try.func14, Try.ntmps14
  go_wp2_with fail
  go_ret
  exact ⟨rfl, below_alloc _ _⟩
theorem rel8 (a b : Int) (d : Bool) (oa : Option Addr) (n c : Nat) (w : World) :
    Calls Try.prog 14 #[.agg #[.int .i64 8, .int .i64 a, .int .i64 b, .slice oa n c, .bool d]] w fun r w' => r = .returned (.bool false) ∧ Below w.heap.size w w' := by
  go_enter Try.func14, Try.ntmps14
  go_wp2_with fail
  go_ret
  exact ⟨rfl, below_alloc _ _⟩
theorem rel9 (a b : Int) (d : Bool) (oa : Option Addr) (n c : Nat) (w : World) :
    Calls Try.prog 14 #[.agg #[.int .i64 9, .int .i64 a, .int .i64 b, .slice oa n c, .bool d]] w fun r w' => r = .returned (.bool false) ∧ Below w.heap.size w w' := by
  go_enter Try.func14, Try.ntmps14
  go_wp2_with fail
  go_ret
  exact ⟨rfl, below_alloc _ _⟩
theorem rel_any (k a b : Int) (d : Bool) (oa : Option Addr) (n c : Nat) (w : World) :
    Calls Try.prog 14 #[.agg #[.int .i64 k, .int .i64 a, .int .i64 b, .slice oa n c, .bool d]] w fun r w' => r = .returned (.bool (rel k)) ∧ Below w.heap.size w w' := by
  by_cases hk : 1 ≤ k ∧ k ≤ 9
  · rcases kind_cases hk.1 hk.2 with rfl | rfl | rfl | rfl | rfl | rfl | rfl | rfl | rfl
    · exact rel1 a b d oa n c w
    · exact rel2 a b d oa n c w
    · exact rel3 a b d oa n c w
    · exact rel4 a b d oa n c w
    · exact rel5 a b d oa n c w
    · exact rel6 a b d oa n c w
    · exact rel7 a b d oa n c w
    · exact rel8 a b d oa n c w
    · exact rel9 a b d oa n c w
  · have e : rel k = false := by simp [rel]; omega
    rw [e]
    have k1 : (k == 1) = false := by simp; omega
    have k2 : (k == 2) = false := by simp; omega
    have k3 : (k == 3) = false := by simp; omega
    have k4 : (k == 4) = false := by simp; omega
    have k5 : (k == 5) = false := by simp; omega
    have k6 : (k == 6) = false := by simp; omega
    have k7 : (k == 7) = false := by simp; omega
    have k8 : (k == 8) = false := by simp; omega
    have k9 : (k == 9) = false := by simp; omega
    clear e hk
    go_enter Try.func14, Try.ntmps14
    go_wp2_with fail
    go_ret
    exact ⟨rfl, below_alloc _ _⟩
theorem rrel_any (k a b : Int) (d : Bool) (oa : Option Addr) (n c : Nat) (w : World) :
    Calls Try.prog 15 #[.agg #[.int .i64 k, .int .i64 a, .int .i64 b, .slice oa n c, .bool d]] w fun r w' => r = .returned (.bool (rel k)) ∧ Below w.heap.size w w' := by
  cases h1 : k == 1
  · by_cases h3 : 3 ≤ k
    · have e : rel k = decide (k ≤ 6) := by simp [rel, h1, h3]
      rw [e]
      have d3 : decide (3 ≤ k) = true := by simpa using h3
      clear e
      go_enter Try.func15, Try.ntmps15
      go_wp2_with fail
      go_ret
      exact ⟨rfl, below_alloc _ _⟩
    · have e : rel k = false := by simp [rel, h1, h3]
      rw [e]
      have d3 : decide (3 ≤ k) = false := by simpa using h3
      clear e
      go_enter Try.func15, Try.ntmps15
      go_wp2_with fail
      go_ret
      exact ⟨rfl, below_alloc _ _⟩
  · have e : rel k = true := by simp [rel, h1]
    rw [e]
    clear e
    go_enter Try.func15, Try.ntmps15
    go_wp2_with fail
    go_ret
    exact ⟨rfl, below_alloc _ _⟩

theorem run_mk (w : World) (n : Nat) (hn : n ≤ 5000000) : (Instr.makeSlice 33 (.int .i64 (n : Int)) (.int .i64 (n : Int))).run Try.prog w = .ok (.slice (some ⟨w.heap.size, 0, none⟩) n n) (w.alloc (.cells (madeCells #[.int .i64 0] n) 3)) := by
  obtain ⟨i0, hi, hz0, hz1, hz2⟩ := info_parts info_int
  have := run_make (P := Try.prog) w 33 3 i0 (.int .i64 0) Try.underlying33 hi hz0 .i64 .i64 n n (by omega) (Int.le_refl _) (by rw [hz2]; omega) (by omega)
  rw [hz1] at this
  simpa [Value.cells] using this

/-- numbers, and noughts behind them -/
def fillc (xs : List Int) (n : Nat) : Array Value := (xs.map (Value.int .i64) ++ List.replicate (n - xs.length) (Value.int .i64 0)).toArray
theorem fillc_nil (n : Nat) : madeCells #[Value.int .i64 0] n = fillc [] n := by
  apply Array.toList_inj.1
  rw [toList_madeCells_one]
  simp [fillc]
theorem fillc_set (xs : List Int) (n : Nat) (x : Int) (h : xs.length < n) : (fillc xs n).setIfInBounds xs.length (.int .i64 x) = fillc (xs ++ [x]) n := by
  apply Array.toList_inj.1
  obtain ⟨q, hq⟩ : ∃ q, n - xs.length = q + 1 := ⟨n - xs.length - 1, by omega⟩
  have e : n - (xs ++ [x]).length = q := by simp; omega
  simp only [fillc, hq, e, List.replicate_succ, Array.toList_setIfInBounds, List.map_append]
  simp
theorem fillc_at (xs : List Int) (n k : Nat) (h : k < n) : ∃ x : Int, (fillc xs n)[k]? = some (.int .i64 x) := by
  by_cases hk : k < xs.length
  · exact ⟨xs[k], by simp [fillc, List.getElem?_append, hk]⟩
  · refine ⟨0, ?_⟩
    have h2 : k - xs.length < n - xs.length := by omega
    simp only [fillc, List.getElem?_toArray]
    rw [List.getElem?_append_right (by simp; omega), List.length_map, List.getElem?_replicate, if_pos h2]
theorem fillc_row (xs : List Int) (n : Nat) (h : xs.length = n) : fillc xs n = row xs := by simp [fillc, row, h]
theorem At.of {w : World} {b : Nat} {xs : List Int} {t : TypeId} {fr : Nat × Nat} (h : w.heap[b]? = some (.cells (row xs) t fr)) : At w (some ⟨b, 0, none⟩) xs := by
  intro k hk
  refine ⟨b, 0, rfl, ?_⟩
  rw [Nat.zero_add, cell_of h, row_at xs k hk]


/-- the names of channels that an operation names -/
def nm (o : OpD) : List Int := if o.kind = 2 ∨ o.kind = 3 ∨ o.kind = 4 ∨ o.kind = 5 then [o.a] else if o.kind = 6 then o.cases.map Cs.ch else []
def NA (r : Ending) (w' : World) (l : List Int) : Prop := ∃ oa c, r = .returned (.slice oa l.length c) ∧ At w' oa l
theorem names_2 (a b : Int) (d : Bool) (oa : Option Addr) (n c : Nat) (w : World) :
    Calls Try.prog 17 #[.agg #[.int .i64 2, .int .i64 a, .int .i64 b, .slice oa n c, .bool d]] w fun r w' => NA r w' [a] ∧ Below w.heap.size w w' := by
  go_enter Try.func17, Try.ntmps17
  go_wp2_with fail
  go_ret
  exact ⟨⟨_, _, rfl, by have := At.new (w.alloc (.cells #[.int .i64 2, .int .i64 a, .int .i64 b, .slice oa n c, .bool d] 27)) [a] 3; rw [World.size_alloc] at this; exact this⟩, btr (below_alloc _ _) (below_alloc _ _)⟩
theorem names_3 (a b : Int) (d : Bool) (oa : Option Addr) (n c : Nat) (w : World) :
    Calls Try.prog 17 #[.agg #[.int .i64 3, .int .i64 a, .int .i64 b, .slice oa n c, .bool d]] w fun r w' => NA r w' [a] ∧ Below w.heap.size w w' := by
  go_enter Try.func17, Try.ntmps17
  go_wp2_with fail
  go_ret
  exact ⟨⟨_, _, rfl, by have := At.new (w.alloc (.cells #[.int .i64 3, .int .i64 a, .int .i64 b, .slice oa n c, .bool d] 27)) [a] 3; rw [World.size_alloc] at this; exact this⟩, btr (below_alloc _ _) (below_alloc _ _)⟩
theorem names_4 (a b : Int) (d : Bool) (oa : Option Addr) (n c : Nat) (w : World) :
    Calls Try.prog 17 #[.agg #[.int .i64 4, .int .i64 a, .int .i64 b, .slice oa n c, .bool d]] w fun r w' => NA r w' [a] ∧ Below w.heap.size w w' := by
  go_enter Try.func17, Try.ntmps17
  go_wp2_with fail
  go_ret
  exact ⟨⟨_, _, rfl, by have := At.new (w.alloc (.cells #[.int .i64 4, .int .i64 a, .int .i64 b, .slice oa n c, .bool d] 27)) [a] 3; rw [World.size_alloc] at this; exact this⟩, btr (below_alloc _ _) (below_alloc _ _)⟩
theorem names_5 (a b : Int) (d : Bool) (oa : Option Addr) (n c : Nat) (w : World) :
    Calls Try.prog 17 #[.agg #[.int .i64 5, .int .i64 a, .int .i64 b, .slice oa n c, .bool d]] w fun r w' => NA r w' [a] ∧ Below w.heap.size w w' := by
  go_enter Try.func17, Try.ntmps17
  go_wp2_with fail
  go_ret
  exact ⟨⟨_, _, rfl, by have := At.new (w.alloc (.cells #[.int .i64 5, .int .i64 a, .int .i64 b, .slice oa n c, .bool d] 27)) [a] 3; rw [World.size_alloc] at this; exact this⟩, btr (below_alloc _ _) (below_alloc _ _)⟩
theorem names_other (k a b : Int) (d : Bool) (oa : Option Addr) (n c : Nat) (w : World) (hk : ¬ (2 ≤ k ∧ k ≤ 6)) :
    Calls Try.prog 17 #[.agg #[.int .i64 k, .int .i64 a, .int .i64 b, .slice oa n c, .bool d]] w fun r w' => NA r w' [] ∧ Below w.heap.size w w' := by
  have k2 : (k == 2) = false := by simp; omega
  have k3 : (k == 3) = false := by simp; omega
  have k4 : (k == 4) = false := by simp; omega
  have k5 : (k == 5) = false := by simp; omega
  have k6 : (k == 6) = false := by simp; omega
  clear hk
  go_enter Try.func17, Try.ntmps17
  go_wp2_with fail
  go_ret
  exact ⟨⟨_, _, rfl, At.nil _ _⟩, below_alloc _ _⟩

set_option maxRecDepth 100000 in
set_option maxHeartbeats 1600000 in
theorem names_6 (a b : Int) (d : Bool) (cs : List Cs) (oa : Option Addr) (c : Nat) (w : World) (hA : CAt w oa cs) (hl : cs.length ≤ 1000) :
    Calls Try.prog 17 #[.agg #[.int .i64 6, .int .i64 a, .int .i64 b, .slice oa cs.length c, .bool d]] w fun r w' => NA r w' (cs.map Cs.ch) ∧ Below w.heap.size w w' := by
  have HA := hide hA
  have mk := run_mk (w.alloc (.cells #[.int .i64 6, .int .i64 a, .int .i64 b, .slice oa cs.length c, .bool d] 27)) cs.length (by omega)
  rw [World.size_alloc] at mk
  have HM := hide (heap_new (w.alloc (.cells #[.int .i64 6, .int .i64 a, .int .i64 b, .slice oa cs.length c, .bool d] 27)) (.cells (madeCells #[.int .i64 0] cs.length) 3))
  rw [World.size_alloc] at HM
  have BM := hide (btr (below_alloc w (.cells #[.int .i64 6, .int .i64 a, .int .i64 b, .slice oa cs.length c, .bool d] 27)) (below_alloc (w.alloc (.cells #[.int .i64 6, .int .i64 a, .int .i64 b, .slice oa cs.length c, .bool d] 27)) (.cells (madeCells #[.int .i64 0] cs.length) 3)))
  clear hA
  go_enter Try.func17, Try.ntmps17
  go_wp2_with fail
  generalize (w.alloc (.cells #[.int .i64 6, .int .i64 a, .int .i64 b, .slice oa cs.length c, .bool d] 27)).alloc (.cells (madeCells #[.int .i64 0] cs.length) 3) = W at HM BM ⊢
  go_loopw [25] (fun i wr => ∃ j : Nat, j ≤ cs.length ∧ i = .int .i64 (j : Int) ∧ wr.heap[w.heap.size + 1]? = some (.cells (fillc ((cs.take j).map Cs.ch) cs.length) 3 (0, 0)) ∧ Below w.heap.size w wr) (fun i _ => cs.length - (intOf i).toNat)
  case atStart => exact ⟨0, Nat.zero_le _, rfl, by rw [List.take_zero, List.map_nil, ← fillc_nil]; exact HM.out, BM.out⟩
  case round =>
    clear HM BM mk
    obtain ⟨j, hj, rfl, hh, hb⟩ := hrel
    have HH := hide hh
    have HB := hide hb
    clear hh hb
    by_cases hlt : j < cs.length
    · have hlt' : decide ((j : Int) < (cs.length : Int)) = true := by simp; omega
      have hlt2 : (j : Int) < (cs.length : Int) := by omega
      obtain ⟨x, hx⟩ : ∃ x, cs[j]? = some x := ⟨cs[j], by simp [hlt]⟩
      obtain ⟨b', off, rfl, q1, q2, q3⟩ := (HA.out.below HB.out) j x hx
      obtain ⟨x0, hx0⟩ := fillc_at ((cs.take j).map Cs.ch) cs.length j hlt
      have c0 := (cell_of HH.out j).trans hx0
      have f0 := frozen_of HH.out j
      have llt := heap_lt HH.out
      have EX : Hid ((cs.take (j + 1)).map Cs.ch = (cs.take j).map Cs.ch ++ [x.ch]) := by
        show _ = _
        rw [List.take_add_one, hx]
        simp
      have EL : Hid (((cs.take j).map Cs.ch).length = j) := by show _ = _; simp; omega
      have HF : Hid ((wr.setCell ⟨w.heap.size + 1, j, none⟩ (.int .i64 x.ch)).heap[w.heap.size + 1]? = some (.cells (fillc ((cs.take (j + 1)).map Cs.ch) cs.length) 3 (0, 0))) := by
        show _ = _
        have := fillc_set ((cs.take j).map Cs.ch) cs.length x.ch (by rw [EL.out]; exact hlt)
        rw [EL.out] at this
        rw [Ba.heap_setCell_same HH.out, this, EX.out]
      clear hx hx0
      go_wp2_with fail
      go_roundw
      case rel => exact ⟨j + 1, by omega, by go_num, by first | exact heap_below HF.out (below_alloc _ _) | (rw [Ba.heap_setCell_same (heap_below HH.out (below_alloc _ _))]; have := HF.out; rw [Ba.heap_setCell_same HH.out] at this; exact this), by first | exact btr (HB.out.setCell (by show w.heap.size ≤ w.heap.size + 1; omega) _) (below_alloc _ _) | exact (btr HB.out (below_alloc _ _)).setCell (by show w.heap.size ≤ w.heap.size + 1; omega) _⟩
      case measure => simp [intOf]; omega
    · have hlt' : decide ((j : Int) < (cs.length : Int)) = false := by simp; omega
      have e : j = cs.length := by omega
      subst e
      have H2 : Hid (wr.heap[w.heap.size + 1]? = some (.cells (row (cs.map Cs.ch)) 3 (0, 0))) := by
        show _ = _
        rw [← fillc_row (cs.map Cs.ch) cs.length (by simp)]
        have := HH.out
        rw [List.take_length] at this
        exact this
      go_wp2_with fail
      go_ret
      exact ⟨⟨_, _, by rw [List.length_map]; rfl, At.of H2.out⟩, HB.out⟩

set_option maxRecDepth 100000 in
set_option maxHeartbeats 1600000 in
theorem rnames_6 (a b : Int) (d : Bool) (cs : List Cs) (oa : Option Addr) (c : Nat) (w : World) (hA : CAt w oa cs) (hl : cs.length ≤ 1000) :
    Calls Try.prog 18 #[.agg #[.int .i64 6, .int .i64 a, .int .i64 b, .slice oa cs.length c, .bool d]] w fun r w' => NA r w' (cs.map Cs.ch) ∧ Below w.heap.size w w' := by
  have HA := hide hA
  have B0 := hide (below_alloc w (.cells #[.int .i64 6, .int .i64 a, .int .i64 b, .slice oa cs.length c, .bool d] 27))
  clear hA
  obtain ⟨i0, hi, hz0, hz1, hz2⟩ := info_parts info_int
  have INF := hide (And.intro hi (And.intro hz0 (And.intro hz1 hz2)))
  clear hi hz0 hz1 hz2
  go_enter Try.func18, Try.ntmps18
  go_wp2_with fail
  generalize w.alloc (.cells #[.int .i64 6, .int .i64 a, .int .i64 b, .slice oa cs.length c, .bool d] 27) = W at B0 ⊢
  go_loopw [3, 25] (fun o i wr => ∃ (j : Nat) (v : Value), j ≤ cs.length ∧ i = .int .i64 (j : Int) ∧ o = v ∧ wr.ownsRow w.heap.size 3 1 v j (((cs.take j).map Cs.ch).map (Value.int .i64)) ∧ Below w.heap.size w wr) (fun _ i _ => cs.length - (intOf i).toNat)
  case atStart => exact ⟨0, _, Nat.zero_le _, rfl, rfl, World.ownsRow_nil _ _ _ _, B0.out⟩
  case round =>
    clear B0
    obtain ⟨j, v, hj, rfl, rfl, hown, hb⟩ := hrel
    by_cases hlt : j < cs.length
    · have hlt' : decide ((j : Int) < (cs.length : Int)) = true := by simp; omega
      have hlt2 : (j : Int) < (cs.length : Int) := by omega
      obtain ⟨x, hx⟩ : ∃ x, cs[j]? = some x := ⟨cs[j], by simp [hlt]⟩
      obtain ⟨b', off, rfl, q1, q2, q3⟩ := (HA.out.below hb) j x hx
      have EX : Hid ((cs.take (j + 1)).map Cs.ch = (cs.take j).map Cs.ch ++ [x.ch]) := by
        show _ = _
        rw [List.take_add_one, hx]
        simp
      have BB := btr (below_alloc wr (.cells #[.bool x.send, .int .i64 x.ch, .int .i64 x.val] 60)) (below_alloc (wr.alloc (.cells #[.bool x.send, .int .i64 x.ch, .int .i64 x.val] 60)) (.cells #[.int .i64 x.ch] 3))
      obtain ⟨X, hX⟩ : ∃ X : List Int, (cs.take j).map Cs.ch = X := ⟨_, rfl⟩
      rw [hX] at hown EX
      have OW := hide (owns_below hown BB)
      have HB := hide (btr hb BB)
      clear hx hown hb BB hX
      go_wp2_with (at_builtin; refine wpList_append_own _ rfl _ _ 33 rfl w.heap.size 3 i0 (.int .i64 0) 1 8 Try.underlying33 INF.out.1 INF.out.2.1 INF.out.2.2.1 INF.out.2.2.2 rfl (by decide) _ _ _ rfl OW.out ⟨wr.heap.size + 1, 0, none⟩ 1 1 [.int .i64 x.ch] rfl rfl ?c1 ?c2 ?c3 ?c4 ?c5 ?_)
      case c1 =>
        have := src_new (wr.alloc (.cells #[.bool x.send, .int .i64 x.ch, .int .i64 x.val] 60)) [x.ch]
        rw [World.size_alloc] at this
        exact this
      case c2 => intro u hu; simp at hu; subst hu; rfl
      case c3 => unfold maxLen; omega
      case c4 => omega
      case c5 => exact HB.out.size
      intro v' w3 hown' hgrow _
      have B3 : Hid (Below w.heap.size w w3) := HB.out.grown hgrow HB.out.size (fun x hx => (OW.out.lt x hx).1)
      have O3 : Hid (w3.ownsRow w.heap.size 3 1 v' (j + 1) (((cs.take (j + 1)).map Cs.ch).map (Value.int .i64))) := by
        show World.ownsRow _ _ _ _ _ _ _
        rw [EX.out, List.map_append]
        exact hown'
      clear hown' hgrow
      go_wp2_with fail
      go_roundw
      case rel =>
        first
          | exact ⟨j + 1, v', by omega, by go_num, rfl, O3.out, B3.out⟩
          | ((repeat apply Exists.intro); exact ⟨⟨j + 1, v', by omega, by go_num, rfl, O3.out, B3.out⟩, rfl⟩)
      case measure => simp [intOf]; omega
    · have hlt' : decide ((j : Int) < (cs.length : Int)) = false := by simp; omega
      have e : j = cs.length := by omega
      subst e
      rw [List.take_length] at hown
      obtain ⟨oa', c', hv', hat'⟩ := owns_at (l := cs.map Cs.ch) (by rw [List.length_map]; exact hown)
      subst hv'
      have AT := hide hat'
      have HB := hide hb
      clear hown hat' hb
      go_wp2_with fail
      go_ret
      exact ⟨⟨_, _, rfl, AT.out⟩, HB.out⟩

set_option maxHeartbeats 1600000 in
theorem rnames_a (k a b : Int) (d : Bool) (oa : Option Addr) (n c : Nat) (w : World) (h1 : 2 ≤ k) (h2 : k ≤ 5) :
    Calls Try.prog 18 #[.agg #[.int .i64 k, .int .i64 a, .int .i64 b, .slice oa n c, .bool d]] w fun r w' => NA r w' [a] ∧ Below w.heap.size w w' := by
  have d1 : decide (2 ≤ k) = true := by simpa using h1
  have d2 : decide (k ≤ 5) = true := by simpa using h2
  have d3 : (k == 6) = false := by simp; omega
  obtain ⟨i0, hi, hz0, hz1, hz2⟩ := info_parts info_int
  have INF := hide (And.intro hi (And.intro hz0 (And.intro hz1 hz2)))
  have BB := hide (btr (below_alloc w (.cells #[.int .i64 k, .int .i64 a, .int .i64 b, .slice oa n c, .bool d] 27)) (below_alloc (w.alloc (.cells #[.int .i64 k, .int .i64 a, .int .i64 b, .slice oa n c, .bool d] 27)) (.cells #[.int .i64 a] 3)))
  clear hi hz0 hz1 hz2
  go_enter Try.func18, Try.ntmps18
  go_wp2_with (at_builtin; refine wpList_append_own _ rfl _ _ 33 rfl w.heap.size 3 i0 (.int .i64 0) 1 8 Try.underlying33 INF.out.1 INF.out.2.1 INF.out.2.2.1 INF.out.2.2.2 rfl (by decide) _ 0 [] rfl (World.ownsRow_nil _ _ _ _) ⟨w.heap.size + 1, 0, none⟩ 1 1 [.int .i64 a] rfl rfl ?c1 ?c2 ?c3 ?c4 ?c5 ?_)
  case c1 =>
    have := src_new (w.alloc (.cells #[.int .i64 k, .int .i64 a, .int .i64 b, .slice oa n c, .bool d] 27)) [a]
    rw [World.size_alloc] at this
    exact this
  case c2 => intro u hu; simp at hu; subst hu; rfl
  case c3 => unfold maxLen; omega
  case c4 => omega
  case c5 => exact BB.out.size
  intro v' w3 hown' hgrow _
  have B3 : Hid (Below w.heap.size w w3) := BB.out.grown hgrow BB.out.size (fun x hx => by simp [Value.ownBlock] at hx)
  obtain ⟨oa', c', hv', hat'⟩ := owns_at (l := [a]) hown'
  subst hv'
  have AT := hide hat'
  have o0 : w3.cell? ⟨w.heap.size, 0, none⟩ = some (.int .i64 k) := by
    have h0 := heap_below (heap_new w (.cells #[.int .i64 k, .int .i64 a, .int .i64 b, .slice oa n c, .bool d] 27)) (below_alloc (w.alloc (.cells #[.int .i64 k, .int .i64 a, .int .i64 b, .slice oa n c, .bool d] 27)) (.cells #[.int .i64 a] 3))
    exact cell_of ((hgrow.block w.heap.size (heap_lt h0) (by simp [Value.ownBlock])).trans h0) 0
  clear hown' hgrow hat'
  go_wp2_with fail
  go_ret
  exact ⟨⟨_, _, rfl, AT.out⟩, B3.out⟩
theorem rnames_other (k a b : Int) (d : Bool) (oa : Option Addr) (n c : Nat) (w : World) (hk : ¬ (2 ≤ k ∧ k ≤ 6)) :
    Calls Try.prog 18 #[.agg #[.int .i64 k, .int .i64 a, .int .i64 b, .slice oa n c, .bool d]] w fun r w' => NA r w' [] ∧ Below w.heap.size w w' := by
  have d3 : (k == 6) = false := by simp; omega
  by_cases h1 : 2 ≤ k
  · have d1 : decide (2 ≤ k) = true := by simpa using h1
    have d2 : decide (k ≤ 5) = false := by simp; omega
    clear hk
    go_enter Try.func18, Try.ntmps18
    go_wp2_with fail
    go_ret
    exact ⟨⟨_, _, rfl, At.nil _ _⟩, below_alloc _ _⟩
  · have d1 : decide (2 ≤ k) = false := by simpa using h1
    clear hk
    go_enter Try.func18, Try.ntmps18
    go_wp2_with fail
    go_ret
    exact ⟨⟨_, _, rfl, At.nil _ _⟩, below_alloc _ _⟩
theorem names_any (o : OpD) (oa : Option Addr) (c : Nat) (w : World) (hA : CAt w oa o.cases) (hl : o.cases.length ≤ 1000) :
    Calls Try.prog 17 #[.agg #[.int .i64 o.kind, .int .i64 o.a, .int .i64 o.b, .slice oa o.cases.length c, .bool o.def_]] w fun r w' => NA r w' (nm o) ∧ Below w.heap.size w w' := by
  obtain ⟨k, a, b, cs, d⟩ := o
  by_cases hk : 2 ≤ k ∧ k ≤ 6
  · have : k = 2 ∨ k = 3 ∨ k = 4 ∨ k = 5 ∨ k = 6 := by omega
    rcases this with rfl | rfl | rfl | rfl | rfl
    · exact names_2 a b d oa _ c w
    · exact names_3 a b d oa _ c w
    · exact names_4 a b d oa _ c w
    · exact names_5 a b d oa _ c w
    · exact names_6 a b d cs oa c w hA hl
  · have e : nm ⟨k, a, b, cs, d⟩ = [] := by
      unfold nm
      rw [if_neg (by simp only; omega), if_neg (by simp only; omega)]
    rw [e]
    exact names_other k a b d oa _ c w hk
theorem rnames_any (o : OpD) (oa : Option Addr) (c : Nat) (w : World) (hA : CAt w oa o.cases) (hl : o.cases.length ≤ 1000) :
    Calls Try.prog 18 #[.agg #[.int .i64 o.kind, .int .i64 o.a, .int .i64 o.b, .slice oa o.cases.length c, .bool o.def_]] w fun r w' => NA r w' (nm o) ∧ Below w.heap.size w w' := by
  obtain ⟨k, a, b, cs, d⟩ := o
  by_cases hk : 2 ≤ k ∧ k ≤ 6
  · by_cases h6 : k = 6
    · subst h6
      exact rnames_6 a b d cs oa c w hA hl
    · have e : nm ⟨k, a, b, cs, d⟩ = [a] := by
        unfold nm
        rw [if_pos (by simp only; omega)]
      rw [e]
      exact rnames_a k a b d oa _ c w hk.1 (by omega)
  · have e : nm ⟨k, a, b, cs, d⟩ = [] := by
      unfold nm
      rw [if_neg (by simp only; omega), if_neg (by simp only; omega)]
    rw [e]
    exact rnames_other k a b d oa _ c w hk
theorem nm_len (o : OpD) (hl : o.cases.length ≤ 1000) : (nm o).length ≤ 1000 := by
  unfold nm
  split
  · simp
  · split
    · simpa using hl
    · simp
end De
end Go.Proofs.Ytkgddkpolckacab
