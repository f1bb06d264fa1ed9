/- Package entry: events; Bare, isSelect, values, mates, has, fields, flagsFit, over this seat's program. -/
import Derived.Test.YtakbbhngcdccpaaGreatEf
import Derived.Test.YtakbbhngcdccpaaGreatFa
namespace Go.Proofs.YtakbbhngcdccpaaGreat
open Go.ChangeShapes Go.WideShapes Go.ChangeAt Go.RowKit
namespace En
open Ba Re

/-- an event: kind, goroutine, channel, case, value, mate, Send, OK -/
structure Ev where
  k : Int
  g : Int
  c : Int
  a : Int
  v : Int
  m : Int
  s : Bool
  o : Bool
def evc (e : Ev) : Array Value := #[.int .i64 e.k, .int .i64 e.g, .int .i64 e.c, .int .i64 e.a, .int .i64 e.v, .int .i64 e.m, .bool e.s, .bool e.o]
def evv (e : Ev) : Value := .agg (evc e)
theorem size_ev : (Tryz.prog.info? 23).map (·.size) = some 8 := by kernel_rfl
theorem loadVar_ev {w : World} {b : Nat} {c : Array Value} {t : TypeId} (h : w.heap[b]? = some (.cells c t (0, 0))) (hc : c.size = 8) : (loadVar 23 ⟨b, 0, none⟩).run Tryz.prog w = .ok (.agg c) w :=
  run_loadVar_row w b t _ _ _ _ h Tryz.underlying23 rfl (by rw [size_ev, hc])
theorem size_sp : (Tryz.prog.info? 137).map (·.size) = some 2 := by kernel_rfl
theorem loadVar_sp {w : World} {b : Nat} {c : Array Value} {t : TypeId} (h : w.heap[b]? = some (.cells c t (0, 0))) (hc : c.size = 2) : (loadVar 137 ⟨b, 0, none⟩).run Tryz.prog w = .ok (.agg c) w :=
  run_loadVar_row w b t _ _ _ _ h Tryz.underlying137 rfl (by rw [size_sp, hc])
theorem results_row1 {fn : Func} {p : Tmp} {ty : TypeId} (h : fn.results = #[.cell p ty]) (tmps : Array Value) (w : World) (g : Nat) (cs : Array Value)
    (hp : tmps.getD p undef = .pointer (some ⟨g, 0, none⟩)) (hl : (loadVar ty ⟨g, 0, none⟩).run Tryz.prog w = .ok (.agg cs) w) :
    (results fn tmps).run Tryz.prog w = .ok (.agg cs) w := by
  have hp' : tmps[p]?.getD undef = .pointer (some ⟨g, 0, none⟩) := by simpa using hp
  simp [results, h, hp', asAddr, hl]
theorem heap_new2 (w : World) (a b : Obj) : ((w.alloc a).alloc b).heap[w.heap.size + 1]? = some b := by
  have := heap_new (w.alloc a) b
  rw [World.size_alloc] at this
  exact this
theorem isSelect_any (e : Ev) (w : World) :
    Calls Tryz.prog 111 #[evv e] w fun r w' => r = .returned (.bool (e.a != -1)) ∧ Below w.heap.size w w' := by
  unfold evv evc
  go_enter Tryz.func111, Tryz.ntmps111
  go_wp2_with fail
  go_ret
  exact ⟨rfl, below_alloc _ _⟩
/-- the greatest value -/
def vm (e : Ev) : Int := if (e.s || e.o) = true then 99 else 0
/-- the least and the greatest mate -/
def ml (e : Ev) : Int := if e.k = 7 then 0 else -1
def mh (e : Ev) : Int := if e.k = 7 then 511 else if (e.s || e.o) = true then 511 else -1
theorem values_any (e : Ev) (w : World) :
    Calls Tryz.prog 112 #[evv e] w fun r w' => r = .returned (.agg #[.int .i64 0, .int .i64 (vm e)]) ∧ Below w.heap.size w w' := by
  unfold evv evc vm
  obtain ⟨k, g, c, a, v, m, s, o⟩ := e
  simp only
  cases s
  · cases o
    · go_enter Tryz.func112, Tryz.ntmps112
      go_wp2_with fail
      exact bodyPost_ret (results_row1 Tryz.results112 _ _ _ _ rfl (loadVar_sp (heap_new2 _ _ _) rfl)) rfl ⟨rfl, btr (below_alloc _ _) (below_alloc _ _)⟩
    · go_enter Tryz.func112, Tryz.ntmps112
      go_wp2_with fail
      exact bodyPost_ret (results_row1 Tryz.results112 _ _ _ _ rfl (loadVar_sp (heap_new2 _ _ _) rfl)) rfl ⟨rfl, btr (below_alloc _ _) (below_alloc _ _)⟩
  · go_enter Tryz.func112, Tryz.ntmps112
    go_wp2_with fail
    exact bodyPost_ret (results_row1 Tryz.results112 _ _ _ _ rfl (loadVar_sp (heap_new2 _ _ _) rfl)) rfl ⟨rfl, btr (below_alloc _ _) (below_alloc _ _)⟩
theorem mates_any (e : Ev) (w : World) :
    Calls Tryz.prog 113 #[evv e] w fun r w' => r = .returned (.agg #[.int .i64 (ml e), .int .i64 (mh e)]) ∧ Below w.heap.size w w' := by
  unfold evv evc ml mh
  obtain ⟨k, g, c, a, v, m, s, o⟩ := e
  simp only
  by_cases hk : k = 7
  · subst hk
    simp only [if_true]
    go_enter Tryz.func113, Tryz.ntmps113
    go_wp2_with fail
    exact bodyPost_ret (results_row1 Tryz.results113 _ _ _ _ rfl (loadVar_sp (heap_new2 _ _ _) rfl)) rfl ⟨rfl, btr (below_alloc _ _) (below_alloc _ _)⟩
  · have hk' : (k == 7) = false := by simpa using hk
    simp only [if_neg hk]
    clear hk
    cases s
    · cases o
      · go_enter Tryz.func113, Tryz.ntmps113
        go_wp2_with fail
        exact bodyPost_ret (results_row1 Tryz.results113 _ _ _ _ rfl (loadVar_sp (heap_new2 _ _ _) rfl)) rfl ⟨rfl, btr (below_alloc _ _) (below_alloc _ _)⟩
      · go_enter Tryz.func113, Tryz.ntmps113
        go_wp2_with fail
        exact bodyPost_ret (results_row1 Tryz.results113 _ _ _ _ rfl (loadVar_sp (heap_new2 _ _ _) rfl)) rfl ⟨rfl, btr (below_alloc _ _) (below_alloc _ _)⟩
    · go_enter Tryz.func113, Tryz.ntmps113
      go_wp2_with fail
      exact bodyPost_ret (results_row1 Tryz.results113 _ _ _ _ rfl (loadVar_sp (heap_new2 _ _ _) rfl)) rfl ⟨rfl, btr (below_alloc _ _) (below_alloc _ _)⟩
def inS (n lo hi : Int) : Bool := decide (lo ≤ n) && decide (n ≤ hi)
theorem has_any (lo hi n : Int) (w : World) :
    Calls Tryz.prog 100 #[.agg #[.int .i64 lo, .int .i64 hi], .int .i64 n] w fun r w' => r = .returned (.bool (inS n lo hi)) ∧ Below w.heap.size w w' := by
  unfold inS
  cases h1 : decide (lo ≤ n)
  · go_enter Tryz.func100, Tryz.ntmps100
    go_wp2_with fail
    go_ret
    exact ⟨rfl, below_alloc _ _⟩
  · go_enter Tryz.func100, Tryz.ntmps100
    go_wp2_with fail
    go_ret
    exact ⟨ret_bool (by simp), below_alloc _ _⟩
/-- do Send and OK fit the kind? -/
def ff (e : Ev) : Bool :=
  if e.k = 3 then e.s && !e.o else if e.k = 4 then !e.s else if e.k = 6 then !e.o && !(e.s && (e.a != -1)) else if e.k = 7 then e.o || !e.s else !e.s && !e.o
set_option maxHeartbeats 1600000 in
theorem flagsFit_any (e : Ev) (w : World) :
    Calls Tryz.prog 97 #[evv e] w fun r w' => r = .returned (.bool (ff e)) ∧ Below w.heap.size w w' := by
  have IS := hide fun u => isSelect_any e u
  unfold evv evc at IS ⊢
  unfold ff
  obtain ⟨k, g, c, a, v, m, s, o⟩ := e
  simp only at IS ⊢
  have Q := hide (heap_new w (.cells #[.int .i64 k, .int .i64 g, .int .i64 c, .int .i64 a, .int .i64 v, .int .i64 m, .bool s, .bool o] 23))
  have BA := hide (below_alloc w (.cells #[.int .i64 k, .int .i64 g, .int .i64 c, .int .i64 a, .int .i64 v, .int .i64 m, .bool s, .bool o] 23))
  by_cases h3 : k = 3
  · subst h3
    simp only [if_true]
    cases s
    · go_enter Tryz.func97, Tryz.ntmps97
      go_wp2_with fail
      go_ret
      exact ⟨rfl, BA.out⟩
    · go_enter Tryz.func97, Tryz.ntmps97
      go_wp2_with fail
      go_ret
      exact ⟨ret_bool (by simp), BA.out⟩
  simp only [if_neg h3]
  have d3 : (k == 3) = false := by simpa using h3
  by_cases h4 : k = 4
  · subst h4
    simp only [if_true]
    go_enter Tryz.func97, Tryz.ntmps97
    go_wp2_with fail
    go_ret
    exact ⟨rfl, BA.out⟩
  simp only [if_neg h4]
  have d4 : (k == 4) = false := by simpa using h4
  by_cases h6 : k = 6
  · subst h6
    simp only [if_true]
    cases o
    · cases s
      · go_enter Tryz.func97, Tryz.ntmps97
        go_wp2_with fail
        go_ret
        exact ⟨rfl, BA.out⟩
      · go_enter Tryz.func97, Tryz.ntmps97
        go_wp2_with fail
        refine (IS.out _).mono ?_
        rintro r w1 ⟨rfl, b1⟩
        have B1 := hide (btr BA.out b1)
        clear b1
        go_wp2_with fail
        go_ret
        exact ⟨ret_bool (by simp), B1.out⟩
    · go_enter Tryz.func97, Tryz.ntmps97
      go_wp2_with fail
      go_ret
      exact ⟨rfl, BA.out⟩
  simp only [if_neg h6]
  have d6 : (k == 6) = false := by simpa using h6
  by_cases h7 : k = 7
  · subst h7
    simp only [if_true]
    cases o
    · go_enter Tryz.func97, Tryz.ntmps97
      go_wp2_with fail
      go_ret
      exact ⟨ret_bool (by simp), BA.out⟩
    · go_enter Tryz.func97, Tryz.ntmps97
      go_wp2_with fail
      go_ret
      exact ⟨rfl, BA.out⟩
  simp only [if_neg h7]
  have d7 : (k == 7) = false := by simpa using h7
  clear h3 h4 h6 h7
  cases s
  · go_enter Tryz.func97, Tryz.ntmps97
    go_wp2_with fail
    go_ret
    exact ⟨ret_bool (by simp), BA.out⟩
  · go_enter Tryz.func97, Tryz.ntmps97
    go_wp2_with fail
    go_ret
    exact ⟨rfl, BA.out⟩
theorem size_a5 : (Tryz.prog.info? 141).map (·.size) = some 5 := by kernel_rfl
theorem loadVar_a5 {w : World} {b : Nat} {c : Array Value} {t : TypeId} (h : w.heap[b]? = some (.cells c t (0, 0))) (hc : c.size = 5) : (loadVar 141 ⟨b, 0, none⟩).run Tryz.prog w = .ok (.agg c) w :=
  run_loadVar_row w b t _ _ _ _ h Tryz.underlying141 rfl (by rw [size_a5, hc])
/-- an event lies in block B -/
def EAt (w : World) (B : Nat) (e : Ev) : Prop := w.heap[B]? = some (.cells (evc e) 23 (0, 0))
theorem fields_any (B : Nat) (e : Ev) (w : World) (h : EAt w B e) :
    Calls Tryz.prog 99 #[.pointer (some ⟨B, 0, none⟩)] w fun r w' => r = .returned (.agg #[.pointer (some ⟨B, 1, none⟩), .pointer (some ⟨B, 2, none⟩), .pointer (some ⟨B, 3, none⟩), .pointer (some ⟨B, 4, none⟩), .pointer (some ⟨B, 5, none⟩)]) ∧ Below w.heap.size w w' := by
  have y0 : w.cell? ⟨B, 0, none⟩ = some (.int .i64 e.k) := cell_of h 0
  have hB := Ba.heap_lt h
  clear h
  go_enter Tryz.func99, Tryz.ntmps99
  go_wp2_with fail
  go_region
  all_goals
    go_wp2_with fail
    exact bodyPost_ret (results_row1 Tryz.results99 _ _ _ _ rfl (loadVar_a5 (heap_below (heap_new _ _) (bdrew1 _)) rfl)) rfl ⟨rfl, btr (below_alloc _ _) (bdrew1 _)⟩
end En
end Go.Proofs.YtakbbhngcdccpaaGreat
