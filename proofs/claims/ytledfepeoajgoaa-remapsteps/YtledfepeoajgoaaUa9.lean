/- The law's steps, opened; its ref(), and Has of the reference. -/
import Derived.Test.YtledfepeoajgoaaUa8
namespace Go.Proofs.Ytledfepeoajgoaa
open Go.ChangeShapes Go.WideShapes Go.ChangeAt Go.RowKit
namespace Rk
open Ba

/-- a step -/
structure S4 where
  q : Int
  g : Int
  n : Int
  a : Int
def sv (x : S4) : Value := .agg #[.int .i64 x.q, .int .i64 x.g, .int .i64 x.n, .int .i64 x.a]
theorem cells_step : Try.prog.cellsOf 29 = 4 := by kernel_rfl
theorem fields4 : ∃ fs : Array Field, Try.prog.underlying 29 = some (.struct fs) ∧ fs.size = 4 ∧ (∃ f, fs[0]? = some f ∧ f.offset = 0 ∧ f.type = 3) ∧ (∃ f, fs[1]? = some f ∧ f.offset = 1 ∧ f.type = 3) ∧ (∃ f, fs[2]? = some f ∧ f.offset = 2 ∧ f.type = 3) ∧ (∃ f, fs[3]? = some f ∧ f.offset = 3 ∧ f.type = 3) :=
  ⟨_, Try.underlying29, rfl, ⟨_, rfl, rfl, rfl⟩, ⟨_, rfl, rfl, rfl⟩, ⟨_, rfl, rfl, rfl⟩, ⟨_, rfl, rfl, rfl⟩⟩
section
variable {H : Type} {enc : TypeId × Value → H} {w : World}
theorem step_cells (n : Nat) (cs : List Value) (x : DataW H × List MemPlace) (h : DataW.trod enc Try.prog w 0 (fun _ => true) true n 29 cs = some x) : ∃ z : List Int, ∀ j, j < 4 → cs[j]? = some (.int .i64 (nth z j)) := by
  obtain ⟨fs, hu, hsz, field0, field1, field2, field3⟩ := fields4
  obtain ⟨xs, k, _, _, _, hxl, hff⟩ := DataW.trod_struct hu h
  rw [hsz] at hxl
  obtain ⟨f0, g0, o0, t0⟩ := field0
  have h0 := hff 0 f0 g0
  rw [o0, t0, cells_int] at h0
  obtain ⟨f1, g1, o1, t1⟩ := field1
  have h1 := hff 1 f1 g1
  rw [o1, t1, cells_int] at h1
  obtain ⟨f2, g2, o2, t2⟩ := field2
  have h2 := hff 2 f2 g2
  rw [o2, t2, cells_int] at h2
  obtain ⟨f3, g3, o3, t3⟩ := field3
  have h3 := hff 3 f3 g3
  rw [o3, t3, cells_int] at h3
  rw [List.getElem?_eq_getElem (by omega)] at h0 h1 h2 h3
  obtain ⟨a0, ha0, _⟩ := DataW.trod_int Try.underlying3 h0
  obtain ⟨a1, ha1, _⟩ := DataW.trod_int Try.underlying3 h1
  obtain ⟨a2, ha2, _⟩ := DataW.trod_int Try.underlying3 h2
  obtain ⟨a3, ha3, _⟩ := DataW.trod_int Try.underlying3 h3
  refine ⟨[a0, a1, a2, a3], fun j hj => ?_⟩
  match j, hj with
  | 0, _ => exact one_of ha0
  | 1, _ => exact one_of ha1
  | 2, _ => exact one_of ha2
  | 3, _ => exact one_of ha3
theorem steps_open {n : Nat} {oa : Option Addr} {len cap : Nat} {x : DataW H × List MemPlace} (h : DataW.trod enc Try.prog w 0 (fun _ => true) true n 22 [.slice oa len cap] = some x) : ∃ l : List (List Int), l.length = len ∧ RAt w oa 4 l ∧ len ≤ cap ∧ cap ≤ maxLen :=
  recs_open Try.underlying22 (by decide) cells_step step_cells h
theorem step_open {n : Nat} {v : Value} {x : DataW H × List MemPlace} (h : DataW.trod enc Try.prog w 0 (fun _ => true) true n 29 v.cells.toList = some x) : ∃ y : S4, v = sv y := by
  obtain ⟨fs, hu, hsz, _⟩ := fields4
  obtain ⟨_, _, _, _, hcl, _⟩ := DataW.trod_struct hu h
  rw [cells_step] at hcl
  obtain ⟨z, hz⟩ := step_cells _ _ _ h
  refine ⟨⟨nth z 0, nth z 1, nth z 2, nth z 3⟩, ?_⟩
  have hc : v.cells = #[.int .i64 (nth z 0), .int .i64 (nth z 1), .int .i64 (nth z 2), .int .i64 (nth z 3)] := by
    apply Array.toList_inj.1
    have q0 := hz 0 (by decide)
    have q1 := hz 1 (by decide)
    have q2 := hz 2 (by decide)
    have q3 := hz 3 (by decide)
    generalize v.cells.toList = L at *
    match L, hcl with
    | [y0, y1, y2, y3], _ =>
      simp at q0 q1 q2 q3
      simp [q0, q1, q2, q3]
  cases v with
  | agg cs => unfold sv; rw [← hc]; rfl
  | _ => have := congrArg Array.size hc; simp [Value.cells] at this
end
theorem size_rr : (Try.prog.info? 36).map (·.size) = some 6 := by kernel_rfl
theorem info_rr : (Try.prog.info? 36).map (fun i => (i.zero, i.size, i.bytes)) = some (some (rv zr), 6, 48) := by kernel_rfl
theorem loadVar_rr {w : World} {b : Nat} {c : Array Value} {t : TypeId} (h : w.heap[b]? = some (.cells c t (0, 0))) (hc : c.size = 6) : (loadVar 36 ⟨b, 0, none⟩).run Try.prog w = .ok (.agg c) w :=
  run_loadVar_row w b t _ _ _ _ h Try.underlying36 rfl (by rw [size_rr, hc])
set_option maxHeartbeats 1600000 in
theorem ref_any (x : Rd) (w : World) :
    Calls Try.prog 13 #[rv x] w fun r w' => r = .returned (rv x) ∧ Below w.heap.size w w' := by
  obtain ⟨a, b, c, d, e, f⟩ := x
  unfold rv
  simp only
  go_enter Try.func13, Try.ntmps13
  go_wp2_with fail
  first
    | exact bodyPost_ret (results_r1 Try.results13 _ _ _ _ rfl (loadVar_rr (heap_new _ _) rfl)) rfl ⟨rfl, btr (below_alloc _ _) (below_alloc _ _)⟩
    | exact bodyPost_ret (results_r1 Try.results13 _ _ _ _ rfl (loadVar_rr (by have := heap_new (w.alloc (.cells #[.int .i64 a, .int .i64 b, .int .i64 c, .bool d, .int .i64 e, .int .i64 f] 32)) (.cells #[.int .i64 a, .int .i64 b, .int .i64 c, .bool d, .int .i64 e, .int .i64 f] 36); rw [World.size_alloc] at this; exact this) rfl)) rfl ⟨rfl, btr (below_alloc _ _) (below_alloc _ _)⟩
/-- the reference's Has -/
def hsR (x : Rd) (t a : Int) : Bool := x.t == t && (decide (x.f ≤ a) && (!x.b || decide (a < x.l)))
theorem hsR_ok {x : Rd} (h : Ok x) (t a : Int) : hsR x t a = hsT x t a := by
  unfold hsR hsT st
  rw [lv_ok h]
set_option maxHeartbeats 1600000 in
theorem has_any (x : Rd) (t n : Int) (w : World) :
    Calls Try.prog 16 #[rv x, .int .i64 t, .int .i64 n] w fun r w' => r = .returned (.bool (hsR x t n)) ∧ Below w.heap.size w w' := by
  obtain ⟨a, b, c, d, e, f⟩ := x
  unfold rv hsR
  simp only
  cases h1 : (b == t)
  · go_enter Try.func16, Try.ntmps16
    go_wp2_with fail
    go_ret
    exact ⟨rfl, below_alloc _ _⟩
  cases h2 : decide (c ≤ n)
  · go_enter Try.func16, Try.ntmps16
    go_wp2_with fail
    go_ret
    exact ⟨rfl, below_alloc _ _⟩
  cases d
  · go_enter Try.func16, Try.ntmps16
    go_wp2_with fail
    go_ret
    exact ⟨rfl, below_alloc _ _⟩
  · go_enter Try.func16, Try.ntmps16
    go_wp2_with fail
    go_ret
    exact ⟨ret_bool (by simp), below_alloc _ _⟩
end Rk
end Go.Proofs.Ytledfepeoajgoaa
