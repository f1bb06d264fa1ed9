/- Layer 18's reference, over this seat's program: known, and a cell of it in memory. -/
import Derived.Test.YtekdcfdjohlfcaaAf
import Derived.Test.YtekdcfdjohlfcaaRo
import Derived.Deep.RegionHeld3
namespace Go.Proofs.Ytekdcfdjohlfcaa
open Go.ChangeShapes Go.WideShapes Go.ChangeAt Go.RowKit
namespace Ce
open Ck
open Ba (KF Bd Nw)

/-- an access -/
structure Ac where
  tid : Int
  n : Int
  no : Bool
  tl : Bool
def acV (a : Ac) : Array Value := #[.int .i64 a.tid, .int .i64 a.n, .bool a.no, .bool a.tl]
/-- whether it is known -/
def rkn (a : Ac) (own : Int) (G : Nat → Int) : Bool := a.no || (!a.tl && ((a.tid == own) || decide (a.n ≤ rg G a.tid)))

set_option maxRecDepth 100000 in
set_option maxHeartbeats 1600000 in
theorem rknown_any (a : Ac) (own : Int) (G : Nat → Int) (w : World) :
    Calls Try.prog 82 #[.agg (acV a), .int .i64 own, .agg (ra G)] w fun r w' => r = .returned (.bool (rkn a own G)) ∧ Below w.heap.size w w' := by
  obtain ⟨t, n, no, tl⟩ := a
  show Calls Try.prog 82 #[.agg #[.int .i64 t, .int .i64 n, .bool no, .bool tl], .int .i64 own, .agg (ra G)] w fun r w' => r = .returned (.bool (no || (!tl && ((t == own) || decide (n ≤ rg G t))))) ∧ Below w.heap.size w w'
  have b1 : Below w.heap.size w ((w.alloc (.cells #[.int .i64 t, .int .i64 n, .bool no, .bool tl] 79)).alloc (.cells (ra G) 39)) := Ba.btr (Ba.below_alloc _ _) (Ba.below_alloc _ _)
  have hA : ((w.alloc (.cells #[.int .i64 t, .int .i64 n, .bool no, .bool tl] 79)).alloc (.cells (ra G) 39)).heap[w.heap.size]? = some (.cells #[.int .i64 t, .int .i64 n, .bool no, .bool tl] 79 (0, 0)) := by
    rw [Below.heap_alloc _ _ _ (by rw [World.size_alloc]; omega)]; exact heap_new _ _
  have hB : RA ((w.alloc (.cells #[.int .i64 t, .int .i64 n, .bool no, .bool tl] 79)).alloc (.cells (ra G) 39)) (w.heap.size + 1) 0 G := by
    have := RA.new (w.alloc (.cells #[.int .i64 t, .int .i64 n, .bool no, .bool tl] 79)) G 39
    rwa [World.size_alloc] at this
  have HA := hide hA
  have HB := hide hB
  have B1 := hide b1
  clear b1 hA hB
  cases no
  case true =>
    go_enter Try.func82, Try.ntmps82
    go_wp2_with fail
    go_ret
    exact ⟨rfl, B1.out⟩
  case false =>
    cases tl
    case true =>
      go_enter Try.func82, Try.ntmps82
      go_wp2_with fail
      go_ret
      exact ⟨rfl, B1.out⟩
    case false =>
      cases hq : (t == own)
      · obtain ⟨gv, hgv⟩ : ∃ gv, rg G t = gv := ⟨_, rfl⟩
        have GT := hide (fun q => rget_any (w.heap.size + 1) 0 G t (((w.alloc (.cells #[.int .i64 t, .int .i64 n, .bool false, .bool false] 79)).alloc (.cells (ra G) 39)).drewN q) HB.out)
        rw [hgv] at GT ⊢
        clear hgv HB
        generalize ra G = AG at *
        go_enter Try.func82, Try.ntmps82
        go_wp2_with fail
        generalize hW : (w.alloc (.cells #[.int .i64 t, .int .i64 n, .bool false, .bool false] 79)).alloc (.cells AG 39) = W at *
        clear hW
        have y0 := cell_of HA.out 0
        have y1 := cell_of HA.out 1
        simp at y0 y1
        go_quiet ((go_at_call 94; exact Calls.quiet_of_same (GT.out _)))
        go_wp2_with fail
        go_ret
        exact ⟨by simp, btr B1.out (bdrew _ _)⟩
      · clear HB
        generalize ra G = AG at *
        go_enter Try.func82, Try.ntmps82
        go_wp2_with fail
        generalize hW : (w.alloc (.cells #[.int .i64 t, .int .i64 n, .bool false, .bool false] 79)).alloc (.cells AG 39) = W at *
        clear hW
        have y0 := cell_of HA.out 0
        have y1 := cell_of HA.out 1
        simp at y0 y1
        go_quiet (fail)
        go_wp2_with fail
        go_ret
        exact ⟨by simp, btr B1.out (bdrew _ _)⟩
/-- what the cells of a cell of the reference hold -/
structure RXc (cur : Array Value) (a : Ac) (F : Nat → Int) (tl : Bool) : Prop where
  sz : cur.size = 261
  c0 : cur[0]? = some (.int .i64 a.tid)
  c1 : cur[1]? = some (.int .i64 a.n)
  c2 : cur[2]? = some (.bool a.no)
  c3 : cur[3]? = some (.bool a.tl)
  rd : ∀ k, k < 256 → cur[4 + k]? = some (.int .i64 (F k))
  ct : cur[260]? = some (.bool tl)
def RX (w : World) (R : Nat) (a : Ac) (F : Nat → Int) (tl : Bool) : Prop := ∃ cur, w.heap[R]? = some (.cells cur 81 (0, 0)) ∧ RXc cur a F tl
/-- F, but v at k -/
def upF (F : Nat → Int) (k : Nat) (v : Int) : Nat → Int := fun j => if j = k then v else F j
theorem RX.lt {w : World} {R : Nat} {a : Ac} {F : Nat → Int} {tl : Bool} (h : RX w R a F tl) : R < w.heap.size := by
  obtain ⟨cur, h, -⟩ := h; exact (Array.getElem?_eq_some_iff.1 h).1
theorem RX.block {w w' : World} {R : Nat} {a : Ac} {F : Nat → Int} {tl : Bool} (h : RX w R a F tl) (e : w'.heap[R]? = w.heap[R]?) : RX w' R a F tl := by
  obtain ⟨cur, h, q⟩ := h; exact ⟨cur, e.trans h, q⟩
theorem RX.below {w w' : World} {R : Nat} {a : Ac} {F : Nat → Int} {tl : Bool} (h : RX w R a F tl) (b : Below w.heap.size w w') : RX w' R a F tl := h.block (b.block R h.lt)
theorem RX.setRead {w : World} {R : Nat} {a : Ac} {F : Nat → Int} {tl : Bool} (h : RX w R a F tl) {k : Nat} (hk : k < 256) (v : Int) : RX (w.setCell ⟨R, 4 + k, none⟩ (.int .i64 v)) R a (upF F k v) tl := by
  obtain ⟨cur, h, q⟩ := h
  refine ⟨_, Ba.heap_setCell_same h _, ?_⟩
  have hs := q.sz
  refine ⟨by rw [Array.size_setIfInBounds]; exact q.sz, ?_, ?_, ?_, ?_, fun j hj => ?_, ?_⟩
  · rw [Array.getElem?_setIfInBounds_ne (by omega)]; exact q.c0
  · rw [Array.getElem?_setIfInBounds_ne (by omega)]; exact q.c1
  · rw [Array.getElem?_setIfInBounds_ne (by omega)]; exact q.c2
  · rw [Array.getElem?_setIfInBounds_ne (by omega)]; exact q.c3
  · by_cases e : j = k
    · subst e
      rw [Array.getElem?_setIfInBounds_self_of_lt (by omega)]
      simp [upF]
    · rw [Array.getElem?_setIfInBounds_ne (by omega), q.rd j hj]
      simp [upF, e]
  · rw [Array.getElem?_setIfInBounds_ne (by omega)]; exact q.ct
theorem RX.setTl {w : World} {R : Nat} {a : Ac} {F : Nat → Int} {tl : Bool} (h : RX w R a F tl) (b : Bool) : RX (w.setCell ⟨R, 260, none⟩ (.bool b)) R a F b := by
  obtain ⟨cur, h, q⟩ := h
  refine ⟨_, Ba.heap_setCell_same h _, ?_⟩
  have hs := q.sz
  refine ⟨by rw [Array.size_setIfInBounds]; exact q.sz, ?_, ?_, ?_, ?_, fun j hj => ?_, ?_⟩
  · rw [Array.getElem?_setIfInBounds_ne (by omega)]; exact q.c0
  · rw [Array.getElem?_setIfInBounds_ne (by omega)]; exact q.c1
  · rw [Array.getElem?_setIfInBounds_ne (by omega)]; exact q.c2
  · rw [Array.getElem?_setIfInBounds_ne (by omega)]; exact q.c3
  · rw [Array.getElem?_setIfInBounds_ne (by omega)]; exact q.rd j hj
  · rw [Array.getElem?_setIfInBounds_self_of_lt (by omega)]
theorem RX.setAc {w : World} {R : Nat} {a : Ac} {F : Nat → Int} {tl : Bool} (h : RX w R a F tl) (t n : Int) (no ta : Bool) : RX ((((w.setCell ⟨R, 0, none⟩ (.int .i64 t)).setCell ⟨R, 1, none⟩ (.int .i64 n)).setCell ⟨R, 2, none⟩ (.bool no)).setCell ⟨R, 3, none⟩ (.bool ta)) R ⟨t, n, no, ta⟩ F tl := by
  obtain ⟨cur, h, q⟩ := h
  refine ⟨_, Ba.heap_setCell_same (Ba.heap_setCell_same (Ba.heap_setCell_same (Ba.heap_setCell_same h _) _) _) _, ?_⟩
  have hs := q.sz
  refine ⟨by simp only [Array.size_setIfInBounds]; exact q.sz, ?_, ?_, ?_, ?_, fun j hj => ?_, ?_⟩
  · rw [Array.getElem?_setIfInBounds_ne (by omega), Array.getElem?_setIfInBounds_ne (by omega), Array.getElem?_setIfInBounds_ne (by omega), Array.getElem?_setIfInBounds_self_of_lt (by omega)]
  · rw [Array.getElem?_setIfInBounds_ne (by omega), Array.getElem?_setIfInBounds_ne (by omega), Array.getElem?_setIfInBounds_self_of_lt (by simp only [Array.size_setIfInBounds]; omega)]
  · rw [Array.getElem?_setIfInBounds_ne (by omega), Array.getElem?_setIfInBounds_self_of_lt (by simp only [Array.size_setIfInBounds]; omega)]
  · rw [Array.getElem?_setIfInBounds_self_of_lt (by simp only [Array.size_setIfInBounds]; omega)]
  · rw [Array.getElem?_setIfInBounds_ne (by omega), Array.getElem?_setIfInBounds_ne (by omega), Array.getElem?_setIfInBounds_ne (by omega), Array.getElem?_setIfInBounds_ne (by omega)]; exact q.rd j hj
  · rw [Array.getElem?_setIfInBounds_ne (by omega), Array.getElem?_setIfInBounds_ne (by omega), Array.getElem?_setIfInBounds_ne (by omega), Array.getElem?_setIfInBounds_ne (by omega)]; exact q.ct
theorem RX.cellR {w : World} {R : Nat} {a : Ac} {F : Nat → Int} {tl : Bool} (h : RX w R a F tl) {k : Nat} (hk : k < 256) : w.cell? ⟨R, 4 + k, none⟩ = some (.int .i64 (F k)) ∧ w.frozen? ⟨R, 4 + k, none⟩ = false := by
  obtain ⟨cur, h, q⟩ := h
  exact ⟨by rw [cell_of h]; exact q.rd k hk, Ba.frozen_of h _⟩
theorem RX.cellT {w : World} {R : Nat} {a : Ac} {F : Nat → Int} {tl : Bool} (h : RX w R a F tl) : w.cell? ⟨R, 260, none⟩ = some (.bool tl) ∧ w.frozen? ⟨R, 260, none⟩ = false := by
  obtain ⟨cur, h, q⟩ := h
  exact ⟨by rw [cell_of h]; exact q.ct, Ba.frozen_of h _⟩
theorem RX.cellA {w : World} {R : Nat} {a : Ac} {F : Nat → Int} {tl : Bool} (h : RX w R a F tl) : w.cell? ⟨R, 0, none⟩ = some (.int .i64 a.tid) ∧ w.cell? ⟨R, 1, none⟩ = some (.int .i64 a.n) ∧ w.cell? ⟨R, 2, none⟩ = some (.bool a.no) ∧ w.cell? ⟨R, 3, none⟩ = some (.bool a.tl) ∧ ∀ i, w.frozen? ⟨R, i, none⟩ = false := by
  obtain ⟨cur, h, q⟩ := h
  exact ⟨by rw [cell_of h]; exact q.c0, by rw [cell_of h]; exact q.c1, by rw [cell_of h]; exact q.c2, by rw [cell_of h]; exact q.c3, fun i => Ba.frozen_of h i⟩

/-- of the first k those are gone that are known -/
def ff (F : Nat → Int) (own : Int) (G : Nat → Int) (k : Nat) : Nat → Int := fun j => if j < k ∧ 0 < F j ∧ rkn ⟨(j : Int), F j, false, false⟩ own G = true then 0 else F j
theorem ff_zero (F : Nat → Int) (own : Int) (G : Nat → Int) : ff F own G 0 = F := by funext j; simp [ff]
theorem ff_at (F : Nat → Int) (own : Int) (G : Nat → Int) (k : Nat) : ff F own G k k = F k := by simp [ff]
theorem ff_same {F : Nat → Int} {own : Int} {G : Nat → Int} {k : Nat} (h : ¬ (0 < F k ∧ rkn ⟨(k : Int), F k, false, false⟩ own G = true)) : ff F own G (k + 1) = ff F own G k := by
  funext j
  unfold ff
  by_cases e : j = k
  · subst e
    rw [if_neg (fun q => h q.2), if_neg (fun q => h q.2)]
  · have : (j < k + 1 ∧ 0 < F j ∧ rkn ⟨(j : Int), F j, false, false⟩ own G = true) ↔ (j < k ∧ 0 < F j ∧ rkn ⟨(j : Int), F j, false, false⟩ own G = true) := by
      constructor
      · rintro ⟨q1, q2⟩; exact ⟨by omega, q2⟩
      · rintro ⟨q1, q2⟩; exact ⟨by omega, q2⟩
    simp only [this]
theorem ff_set {F : Nat → Int} {own : Int} {G : Nat → Int} {k : Nat} (h0 : 0 < F k) (h1 : rkn ⟨(k : Int), F k, false, false⟩ own G = true) : upF (ff F own G k) k 0 = ff F own G (k + 1) := by
  funext j
  unfold upF ff
  by_cases e : j = k
  · subst e
    rw [if_pos rfl, if_pos ⟨by omega, h0, h1⟩]
  · rw [if_neg e]
    have : (j < k + 1 ∧ 0 < F j ∧ rkn ⟨(j : Int), F j, false, false⟩ own G = true) ↔ (j < k ∧ 0 < F j ∧ rkn ⟨(j : Int), F j, false, false⟩ own G = true) := by
      constructor
      · rintro ⟨q1, q2⟩; exact ⟨by omega, q2⟩
      · rintro ⟨q1, q2⟩; exact ⟨by omega, q2⟩
    simp only [this]
end Ce
end Go.Proofs.Ytekdcfdjohlfcaa
