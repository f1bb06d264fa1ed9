import Derived.Test.YtekdcfdjohlfcaaZjRs2
import Derived.Deep.RegionHeld3
import Derived.Deep.Cut
/- The reference's Of, over this seat's program. -/
namespace Go.Proofs.Ytekdcfdjohlfcaa
open Go.ChangeShapes Go.WideShapes Go.ChangeAt Go.RowKit
namespace Ck

set_option maxRecDepth 100000 in
set_option maxHeartbeats 1600000 in
theorem rof_long (oa : Option Addr) (n c : Nat) (w : World) (h : 256 < n) (hm : n ≤ maxLen) :
    Calls Try.prog 9 #[.slice oa n c] w fun r w' => r = .returned (.tuple #[.agg (ra nf), .int .i64 2]) ∧ Below w.heap.size w w' := by
  unfold maxLen at hm
  have h' : (256 : Int) < (n : Int) := by omega
  have zr := zero_ref
  have br := build_ref
  have rs := ra_size nf
  have s1 := st_ref nf (heap_new (w.alloc (.cells (ra nf) 39)) (.cells (ra nf) 39)) (ra_size nf)
  rw [setRow_new, World.size_alloc] at s1
  have hR : (((w.alloc (.cells (ra nf) 39)).alloc (.cells (ra nf) 39))).heap[w.heap.size]? = some (.cells (ra nf) 39 (0, 0)) := (Below.heap_alloc _ _ _ (by simp)).trans (heap_new _ _)
  have hC : (((w.alloc (.cells (ra nf) 39)).alloc (.cells (ra nf) 39))).heap[w.heap.size + 1]? = some (.cells (ra nf) 39 (0, 0)) := by
    have := heap_new (w.alloc (.cells (ra nf) 39)) (.cells (ra nf) 39)
    rw [World.size_alloc] at this
    exact this
  have s2 := st_ref nf hR (ra_size nf)
  rw [setRow_self _ _ _ _ _ hR] at s2
  have HR := hide hR
  have HC := hide hC
  clear hR hC
  go_enter Try.func9, Try.ntmps9
  go_wp2_with (refine wpList_load_row rfl 39 _ rfl _ rfl 39 _ (0, 0) _ HC.out Try.underlying39 rfl (by rw [size_ref, ra_size]) ?_)
  exact bodyPost_ret (results_row2 Try.results9 _ _ _ _ _ rfl rfl (loadVar_ref HR.out)) rfl ⟨rfl, btr (below_alloc _ _) (below_alloc _ _)⟩

set_option maxRecDepth 100000 in
set_option maxHeartbeats 1600000 in
theorem rof_bad (oa : Option Addr) (l : List Int) (c : Nat) (w : World) (hA : At w oa l) (hl : l.length ≤ 256) (hv : ¬ Valid l) :
    Calls Try.prog 9 #[.slice oa l.length c] w fun r w' => r = .returned (.tuple #[.agg (ra nf), .int .i64 1]) ∧ Below w.heap.size w w' := by
  have HV := hide hv
  have HA := hide (hA.below (btr (below_alloc w (.cells (ra nf) 39)) (below_alloc (w.alloc (.cells (ra nf) 39)) (.cells (ra nf) 39))))
  clear hv hA
  have zr := zero_ref
  have br := build_ref
  have rs := ra_size nf
  have s1 := st_ref nf (heap_new (w.alloc (.cells (ra nf) 39)) (.cells (ra nf) 39)) (ra_size nf)
  rw [setRow_new, World.size_alloc] at s1
  have hR : (((w.alloc (.cells (ra nf) 39)).alloc (.cells (ra nf) 39))).heap[w.heap.size]? = some (.cells (ra nf) 39 (0, 0)) := (Below.heap_alloc _ _ _ (by simp)).trans (heap_new _ _)
  have s2 := st_ref nf hR (ra_size nf)
  rw [setRow_self _ _ _ _ _ hR] at s2
  have HR := hide hR
  clear hR
  go_enter Try.func9, Try.ntmps9
  go_wp2_with fail
  go_loop [16] (fun i => ∃ k : Nat, k ≤ l.length ∧ i = .int .i64 k ∧ ∀ j, j < k → okN (nth l j) = true) (fun i => l.length - (intOf i).toNat)
  case atStart => exact ⟨0, Nat.zero_le _, rfl, fun j hj => absurd hj (Nat.not_lt_zero _)⟩
  case round =>
    obtain ⟨k, hk, rfl, hall⟩ := hrel
    have HH := hide hall
    clear hall
    by_cases hlt : k < l.length
    · obtain ⟨b', off, rfl, hc⟩ := HA.out k hlt
      by_cases h1 : nth l k < 0
      · go_wp2
        exact bodyPost_ret (results_row2 Try.results9 _ _ _ _ _ rfl rfl (loadVar_ref HR.out)) rfl ⟨rfl, btr (below_alloc _ _) (below_alloc _ _)⟩
      by_cases h2 : 1048576 < nth l k
      · go_wp2
        exact bodyPost_ret (results_row2 Try.results9 _ _ _ _ _ rfl rfl (loadVar_ref HR.out)) rfl ⟨rfl, btr (below_alloc _ _) (below_alloc _ _)⟩
      have HO : Hid (okN (nth l k) = true) := by show _ = _; rw [okN_iff]; omega
      go_wp2
      go_round
      case rel => exact ⟨k + 1, by omega, by go_num, fun j hj => by
        by_cases e : j = k
        · subst e; exact HO.out
        · exact HH.out j (by omega)⟩
      case measure => simp [intOf]; omega
    · exact absurd (fun j hj => HH.out j (by omega)) HV.out

set_option maxRecDepth 100000 in
set_option maxHeartbeats 1600000 in
theorem rof_ok (oa : Option Addr) (l : List Int) (c : Nat) (w : World) (hA : At w oa l) (hl : l.length ≤ 256) (hv : Valid l) :
    Calls Try.prog 9 #[.slice oa l.length c] w fun r w' => r = .returned (.tuple #[.agg (ra (nth l)), .int .i64 0]) ∧ Below w.heap.size w w' := by
  have HV := hide hv
  have HA0 := hide hA
  have HA := hide (hA.below (btr (below_alloc w (.cells (ra nf) 39)) (below_alloc (w.alloc (.cells (ra nf) 39)) (.cells (ra nf) 39))))
  have BB := hide (btr (below_alloc w (.cells (ra nf) 39)) (below_alloc (w.alloc (.cells (ra nf) 39)) (.cells (ra nf) 39)))
  clear hv hA
  have zr := zero_ref
  have br := build_ref
  have rs := ra_size nf
  have s1 := st_ref nf (heap_new (w.alloc (.cells (ra nf) 39)) (.cells (ra nf) 39)) (ra_size nf)
  rw [setRow_new, World.size_alloc] at s1
  have hR : (((w.alloc (.cells (ra nf) 39)).alloc (.cells (ra nf) 39))).heap[w.heap.size]? = some (.cells (ra nf) 39 (0, 0)) := (Below.heap_alloc _ _ _ (by simp)).trans (heap_new _ _)
  have hC : (((w.alloc (.cells (ra nf) 39)).alloc (.cells (ra nf) 39))).heap[w.heap.size + 1]? = some (.cells (ra nf) 39 (0, 0)) := by
    have := heap_new (w.alloc (.cells (ra nf) 39)) (.cells (ra nf) 39)
    rw [World.size_alloc] at this
    exact this
  have HR := hide hR
  have HC := hide hC
  clear hR hC
  go_enter Try.func9, Try.ntmps9
  go_wp2_with fail
  go_loop [16] (fun i => ∃ k : Nat, k ≤ l.length ∧ i = .int .i64 k) (fun i => l.length - (intOf i).toNat)
  case atStart => exact ⟨0, Nat.zero_le _, rfl⟩
  case round =>
    obtain ⟨k, hk, rfl⟩ := hrel
    by_cases hlt : k < l.length
    · obtain ⟨b', off, rfl, hc⟩ := HA.out k hlt
      obtain ⟨v0, v1⟩ := (okN_iff _).1 (HV.out k hlt)
      go_wp2
      go_round
      case rel => exact ⟨k + 1, by omega, by go_num⟩
      case measure => simp [intOf]; omega
    · clear hk s1 zr br
      go_wp2_with fail
      generalize (w.alloc (Obj.cells (ra nf) 39)).alloc (Obj.cells (ra nf) 39) = W at HA BB HR HC ⊢
      go_loopw [30] (fun i wr => ∃ k : Nat, k ≤ l.length ∧ i = .int .i64 k ∧ wr.heap[w.heap.size + 1]? = some (.cells (ra (gk l k)) 39 (0, 0)) ∧ wr.heap[w.heap.size]? = some (.cells (ra nf) 39 (0, 0)) ∧ Below w.heap.size w wr) (fun i _ => l.length - (intOf i).toNat)
      case atStart => exact ⟨0, Nat.zero_le _, rfl, by rw [gk_zero]; exact HC.out, HR.out, BB.out⟩
      case round =>
        obtain ⟨j, hj, rfl, h1, h2, h3⟩ := hrel
        by_cases hjl : j < l.length
        · obtain ⟨b', off, rfl, hc⟩ := (HA0.out.below h3) j hjl
          have hj256 : j < 256 := by omega
          have hj' : (j : Int) < 256 := by omega
          have c1 := (cell_of h1 j).trans (ra_at _ j hj256)
          have f1 := frozen_of h1 j
          have H1 := hide h1
          have H2 := hide h2
          have H3 := hide h3
          clear h1 h2 h3
          go_wp2
          go_roundw
          case rel => exact ⟨j + 1, by omega, by go_num, by
              rw [Ck.heap_setCell_same H1.out, ra_set _ (gk l (j + 1)) j _ hj256 (fun i => by
                by_cases e : i = j
                · subst e; simp [gk]
                · have : (i < j + 1) = (i < j) := by simp; omega
                  simp only [gk, this, if_neg e])], by
              rw [Below.heap_setCell _ _ _ _ (by simp)]; exact H2.out, H3.out.setCell (by simp) _⟩
          case measure => simp [intOf]; omega
        · have e : j = l.length := by omega
          subst e
          rw [gk_all] at h1
          have H1 := hide h1
          have H2 := hide h2
          have H3 := hide h3
          clear h1 h2 h3
          go_wp2_with (first | (refine wpList_load_row rfl 39 _ rfl _ rfl 39 _ (0, 0) _ H1.out Try.underlying39 rfl (by rw [size_ref, ra_size]) ?_) | (refine wpList_store_row rfl 39 _ _ rfl _ _ rfl rfl 39 _ H2.out (by rw [size_ref, ra_size]) (by rw [ra_size, ra_size]) (ra_one _) ?_))
          exact bodyPost_ret (results_row2 Try.results9 _ _ _ _ _ rfl rfl (loadVar_ref (setRow_heap _ _ _ _ _ _ H2.out))) rfl ⟨rfl, below_setRow H3.out (Nat.le_refl _) _⟩
end Ck
end Go.Proofs.Ytekdcfdjohlfcaa
/- Layer 18's reference, over this seat's program: known, and a cell of it in memory. -/
namespace Go.Proofs.Ytekdcfdjohlfcaa
open Go.ChangeShapes Go.WideShapes Go.ChangeAt Go.RowKit
namespace Ce
open Ck
open Ba (KF Bd Nw)

/-- an access -/
structure Ac where
  tid : Int
  n : Int
  no : Bool
  tl : Bool
def acV (a : Ac) : Array Value := #[.int .i64 a.tid, .int .i64 a.n, .bool a.no, .bool a.tl]
/-- whether it is known -/
def rkn (a : Ac) (own : Int) (G : Nat → Int) : Bool := a.no || (!a.tl && ((a.tid == own) || decide (a.n ≤ rg G a.tid)))

set_option maxRecDepth 100000 in
set_option maxHeartbeats 1600000 in
theorem rknown_any (a : Ac) (own : Int) (G : Nat → Int) (w : World) :
    Calls Try.prog 82 #[.agg (acV a), .int .i64 own, .agg (ra G)] w fun r w' => r = .returned (.bool (rkn a own G)) ∧ Below w.heap.size w w' := by
  obtain ⟨t, n, no, tl⟩ := a
  show Calls Try.prog 82 #[.agg #[.int .i64 t, .int .i64 n, .bool no, .bool tl], .int .i64 own, .agg (ra G)] w fun r w' => r = .returned (.bool (no || (!tl && ((t == own) || decide (n ≤ rg G t))))) ∧ Below w.heap.size w w'
  have b1 : Below w.heap.size w ((w.alloc (.cells #[.int .i64 t, .int .i64 n, .bool no, .bool tl] 79)).alloc (.cells (ra G) 39)) := Ba.btr (Ba.below_alloc _ _) (Ba.below_alloc _ _)
  have hA : ((w.alloc (.cells #[.int .i64 t, .int .i64 n, .bool no, .bool tl] 79)).alloc (.cells (ra G) 39)).heap[w.heap.size]? = some (.cells #[.int .i64 t, .int .i64 n, .bool no, .bool tl] 79 (0, 0)) := by
    rw [Below.heap_alloc _ _ _ (by rw [World.size_alloc]; omega)]; exact heap_new _ _
  have hB : RA ((w.alloc (.cells #[.int .i64 t, .int .i64 n, .bool no, .bool tl] 79)).alloc (.cells (ra G) 39)) (w.heap.size + 1) 0 G := by
    have := RA.new (w.alloc (.cells #[.int .i64 t, .int .i64 n, .bool no, .bool tl] 79)) G 39
    rwa [World.size_alloc] at this
  have HA := hide hA
  have HB := hide hB
  have B1 := hide b1
  clear b1 hA hB
  cases no
  case true =>
    go_enter Try.func82, Try.ntmps82
    go_wp2_with fail
    go_ret
    exact ⟨rfl, B1.out⟩
  case false =>
    cases tl
    case true =>
      go_enter Try.func82, Try.ntmps82
      go_wp2_with fail
      go_ret
      exact ⟨rfl, B1.out⟩
    case false =>
      cases hq : (t == own)
      · obtain ⟨gv, hgv⟩ : ∃ gv, rg G t = gv := ⟨_, rfl⟩
        have GT := hide (fun q => rget_any (w.heap.size + 1) 0 G t (((w.alloc (.cells #[.int .i64 t, .int .i64 n, .bool false, .bool false] 79)).alloc (.cells (ra G) 39)).drewN q) HB.out)
        rw [hgv] at GT ⊢
        clear hgv HB
        generalize ra G = AG at *
        go_enter Try.func82, Try.ntmps82
        go_wp2_with fail
        generalize hW : (w.alloc (.cells #[.int .i64 t, .int .i64 n, .bool false, .bool false] 79)).alloc (.cells AG 39) = W at *
        clear hW
        have y0 := cell_of HA.out 0
        have y1 := cell_of HA.out 1
        simp at y0 y1
        go_quiet ((go_at_call 94; exact Calls.quiet_of_same (GT.out _)))
        go_wp2_with fail
        go_ret
        exact ⟨by simp, btr B1.out (bdrew _ _)⟩
      · clear HB
        generalize ra G = AG at *
        go_enter Try.func82, Try.ntmps82
        go_wp2_with fail
        generalize hW : (w.alloc (.cells #[.int .i64 t, .int .i64 n, .bool false, .bool false] 79)).alloc (.cells AG 39) = W at *
        clear hW
        have y0 := cell_of HA.out 0
        have y1 := cell_of HA.out 1
        simp at y0 y1
        go_quiet (fail)
        go_wp2_with fail
        go_ret
        exact ⟨by simp, btr B1.out (bdrew _ _)⟩
/-- what the cells of a cell of the reference hold -/
structure RXc (cur : Array Value) (a : Ac) (F : Nat → Int) (tl : Bool) : Prop where
  sz : cur.size = 261
  c0 : cur[0]? = some (.int .i64 a.tid)
  c1 : cur[1]? = some (.int .i64 a.n)
  c2 : cur[2]? = some (.bool a.no)
  c3 : cur[3]? = some (.bool a.tl)
  rd : ∀ k, k < 256 → cur[4 + k]? = some (.int .i64 (F k))
  ct : cur[260]? = some (.bool tl)
def RX (w : World) (R : Nat) (a : Ac) (F : Nat → Int) (tl : Bool) : Prop := ∃ cur, w.heap[R]? = some (.cells cur 81 (0, 0)) ∧ RXc cur a F tl
/-- F, but v at k -/
def upF (F : Nat → Int) (k : Nat) (v : Int) : Nat → Int := fun j => if j = k then v else F j
theorem RX.lt {w : World} {R : Nat} {a : Ac} {F : Nat → Int} {tl : Bool} (h : RX w R a F tl) : R < w.heap.size := by
  obtain ⟨cur, h, -⟩ := h; exact (Array.getElem?_eq_some_iff.1 h).1
theorem RX.block {w w' : World} {R : Nat} {a : Ac} {F : Nat → Int} {tl : Bool} (h : RX w R a F tl) (e : w'.heap[R]? = w.heap[R]?) : RX w' R a F tl := by
  obtain ⟨cur, h, q⟩ := h; exact ⟨cur, e.trans h, q⟩
theorem RX.below {w w' : World} {R : Nat} {a : Ac} {F : Nat → Int} {tl : Bool} (h : RX w R a F tl) (b : Below w.heap.size w w') : RX w' R a F tl := h.block (b.block R h.lt)
theorem RX.setRead {w : World} {R : Nat} {a : Ac} {F : Nat → Int} {tl : Bool} (h : RX w R a F tl) {k : Nat} (hk : k < 256) (v : Int) : RX (w.setCell ⟨R, 4 + k, none⟩ (.int .i64 v)) R a (upF F k v) tl := by
  obtain ⟨cur, h, q⟩ := h
  refine ⟨_, Ba.heap_setCell_same h _, ?_⟩
  have hs := q.sz
  refine ⟨by rw [Array.size_setIfInBounds]; exact q.sz, ?_, ?_, ?_, ?_, fun j hj => ?_, ?_⟩
  · rw [Array.getElem?_setIfInBounds_ne (by omega)]; exact q.c0
  · rw [Array.getElem?_setIfInBounds_ne (by omega)]; exact q.c1
  · rw [Array.getElem?_setIfInBounds_ne (by omega)]; exact q.c2
  · rw [Array.getElem?_setIfInBounds_ne (by omega)]; exact q.c3
  · by_cases e : j = k
    · subst e
      rw [Array.getElem?_setIfInBounds_self_of_lt (by omega)]
      simp [upF]
    · rw [Array.getElem?_setIfInBounds_ne (by omega), q.rd j hj]
      simp [upF, e]
  · rw [Array.getElem?_setIfInBounds_ne (by omega)]; exact q.ct
theorem RX.setTl {w : World} {R : Nat} {a : Ac} {F : Nat → Int} {tl : Bool} (h : RX w R a F tl) (b : Bool) : RX (w.setCell ⟨R, 260, none⟩ (.bool b)) R a F b := by
  obtain ⟨cur, h, q⟩ := h
  refine ⟨_, Ba.heap_setCell_same h _, ?_⟩
  have hs := q.sz
  refine ⟨by rw [Array.size_setIfInBounds]; exact q.sz, ?_, ?_, ?_, ?_, fun j hj => ?_, ?_⟩
  · rw [Array.getElem?_setIfInBounds_ne (by omega)]; exact q.c0
  · rw [Array.getElem?_setIfInBounds_ne (by omega)]; exact q.c1
  · rw [Array.getElem?_setIfInBounds_ne (by omega)]; exact q.c2
  · rw [Array.getElem?_setIfInBounds_ne (by omega)]; exact q.c3
  · rw [Array.getElem?_setIfInBounds_ne (by omega)]; exact q.rd j hj
  · rw [Array.getElem?_setIfInBounds_self_of_lt (by omega)]
theorem RX.setAc {w : World} {R : Nat} {a : Ac} {F : Nat → Int} {tl : Bool} (h : RX w R a F tl) (t n : Int) (no ta : Bool) : RX ((((w.setCell ⟨R, 0, none⟩ (.int .i64 t)).setCell ⟨R, 1, none⟩ (.int .i64 n)).setCell ⟨R, 2, none⟩ (.bool no)).setCell ⟨R, 3, none⟩ (.bool ta)) R ⟨t, n, no, ta⟩ F tl := by
  obtain ⟨cur, h, q⟩ := h
  refine ⟨_, Ba.heap_setCell_same (Ba.heap_setCell_same (Ba.heap_setCell_same (Ba.heap_setCell_same h _) _) _) _, ?_⟩
  have hs := q.sz
  refine ⟨by simp only [Array.size_setIfInBounds]; exact q.sz, ?_, ?_, ?_, ?_, fun j hj => ?_, ?_⟩
  · rw [Array.getElem?_setIfInBounds_ne (by omega), Array.getElem?_setIfInBounds_ne (by omega), Array.getElem?_setIfInBounds_ne (by omega), Array.getElem?_setIfInBounds_self_of_lt (by omega)]
  · rw [Array.getElem?_setIfInBounds_ne (by omega), Array.getElem?_setIfInBounds_ne (by omega), Array.getElem?_setIfInBounds_self_of_lt (by simp only [Array.size_setIfInBounds]; omega)]
  · rw [Array.getElem?_setIfInBounds_ne (by omega), Array.getElem?_setIfInBounds_self_of_lt (by simp only [Array.size_setIfInBounds]; omega)]
  · rw [Array.getElem?_setIfInBounds_self_of_lt (by simp only [Array.size_setIfInBounds]; omega)]
  · rw [Array.getElem?_setIfInBounds_ne (by omega), Array.getElem?_setIfInBounds_ne (by omega), Array.getElem?_setIfInBounds_ne (by omega), Array.getElem?_setIfInBounds_ne (by omega)]; exact q.rd j hj
  · rw [Array.getElem?_setIfInBounds_ne (by omega), Array.getElem?_setIfInBounds_ne (by omega), Array.getElem?_setIfInBounds_ne (by omega), Array.getElem?_setIfInBounds_ne (by omega)]; exact q.ct
theorem RX.cellR {w : World} {R : Nat} {a : Ac} {F : Nat → Int} {tl : Bool} (h : RX w R a F tl) {k : Nat} (hk : k < 256) : w.cell? ⟨R, 4 + k, none⟩ = some (.int .i64 (F k)) ∧ w.frozen? ⟨R, 4 + k, none⟩ = false := by
  obtain ⟨cur, h, q⟩ := h
  exact ⟨by rw [cell_of h]; exact q.rd k hk, Ba.frozen_of h _⟩
theorem RX.cellT {w : World} {R : Nat} {a : Ac} {F : Nat → Int} {tl : Bool} (h : RX w R a F tl) : w.cell? ⟨R, 260, none⟩ = some (.bool tl) ∧ w.frozen? ⟨R, 260, none⟩ = false := by
  obtain ⟨cur, h, q⟩ := h
  exact ⟨by rw [cell_of h]; exact q.ct, Ba.frozen_of h _⟩
theorem RX.cellA {w : World} {R : Nat} {a : Ac} {F : Nat → Int} {tl : Bool} (h : RX w R a F tl) : w.cell? ⟨R, 0, none⟩ = some (.int .i64 a.tid) ∧ w.cell? ⟨R, 1, none⟩ = some (.int .i64 a.n) ∧ w.cell? ⟨R, 2, none⟩ = some (.bool a.no) ∧ w.cell? ⟨R, 3, none⟩ = some (.bool a.tl) ∧ ∀ i, w.frozen? ⟨R, i, none⟩ = false := by
  obtain ⟨cur, h, q⟩ := h
  exact ⟨by rw [cell_of h]; exact q.c0, by rw [cell_of h]; exact q.c1, by rw [cell_of h]; exact q.c2, by rw [cell_of h]; exact q.c3, fun i => Ba.frozen_of h i⟩

/-- of the first k those are gone that are known -/
def ff (F : Nat → Int) (own : Int) (G : Nat → Int) (k : Nat) : Nat → Int := fun j => if j < k ∧ 0 < F j ∧ rkn ⟨(j : Int), F j, false, false⟩ own G = true then 0 else F j
theorem ff_zero (F : Nat → Int) (own : Int) (G : Nat → Int) : ff F own G 0 = F := by funext j; simp [ff]
theorem ff_at (F : Nat → Int) (own : Int) (G : Nat → Int) (k : Nat) : ff F own G k k = F k := by simp [ff]
theorem ff_same {F : Nat → Int} {own : Int} {G : Nat → Int} {k : Nat} (h : ¬ (0 < F k ∧ rkn ⟨(k : Int), F k, false, false⟩ own G = true)) : ff F own G (k + 1) = ff F own G k := by
  funext j
  unfold ff
  by_cases e : j = k
  · subst e
    rw [if_neg (fun q => h q.2), if_neg (fun q => h q.2)]
  · have : (j < k + 1 ∧ 0 < F j ∧ rkn ⟨(j : Int), F j, false, false⟩ own G = true) ↔ (j < k ∧ 0 < F j ∧ rkn ⟨(j : Int), F j, false, false⟩ own G = true) := by
      constructor
      · rintro ⟨q1, q2⟩; exact ⟨by omega, q2⟩
      · rintro ⟨q1, q2⟩; exact ⟨by omega, q2⟩
    simp only [this]
theorem ff_set {F : Nat → Int} {own : Int} {G : Nat → Int} {k : Nat} (h0 : 0 < F k) (h1 : rkn ⟨(k : Int), F k, false, false⟩ own G = true) : upF (ff F own G k) k 0 = ff F own G (k + 1) := by
  funext j
  unfold upF ff
  by_cases e : j = k
  · subst e
    rw [if_pos rfl, if_pos ⟨by omega, h0, h1⟩]
  · rw [if_neg e]
    have : (j < k + 1 ∧ 0 < F j ∧ rkn ⟨(j : Int), F j, false, false⟩ own G = true) ↔ (j < k ∧ 0 < F j ∧ rkn ⟨(j : Int), F j, false, false⟩ own G = true) := by
      constructor
      · rintro ⟨q1, q2⟩; exact ⟨by omega, q2⟩
      · rintro ⟨q1, q2⟩; exact ⟨by omega, q2⟩
    simp only [this]
end Ce
end Go.Proofs.Ytekdcfdjohlfcaa
/- Layer 18's reference, over this seat's program: Read. -/
namespace Go.Proofs.Ytekdcfdjohlfcaa
open Go.ChangeShapes Go.WideShapes Go.ChangeAt Go.RowKit
namespace Ce
open Ck
open Ba (KF Bd Nw)

/-- what a read tells -/
def rrR (a : Ac) (own : Int) (G : Nat → Int) : Int := if rkn a own G = true then 0 else 1

theorem heap_lt' {w : World} {b : Nat} {o : Obj} (h : w.heap[b]? = some o) : b < w.heap.size := (Array.getElem?_eq_some_iff.1 h).1
theorem cellB {w w' : World} {a : Addr} {v : Value} (h : w.cell? a = some v) (b : Below w.heap.size w w') : w'.cell? a = some v := (b.cell (World.block_lt_of_cell? w _ h)).trans h
set_option maxRecDepth 100000 in
set_option maxHeartbeats 800000 in
theorem rread_ok {w : World} {R : Nat} {a : Ac} {F : Nat → Int} {tl : Bool} (h : RX w R a F tl) (t : Nat) (ht : t < 256) (n : Int) (G : Nat → Int) :
    Calls Try.prog 70 #[.pointer (some ⟨R, 0, none⟩), .int .i64 (t : Int), .int .i64 n, .agg (ra G)] w fun r w' => r = .returned (.int .i64 (rrR a (t : Int) G)) ∧ RX w' R a (upF (ff F (t : Int) G 256) t n) tl ∧ KF (fun k => k = R) w w' := by
  have HX := hide (h.below (Ba.below_alloc w (.cells (ra G) 39)))
  have hR := h.lt
  have hC : Hid ((w.alloc (.cells (ra G) 39)).heap[w.heap.size]? = some (.cells (ra G) 39 (0, 0))) := heap_new _ _
  have KN := hide (fun x u => rknown_any x (t : Int) G u)
  have rs := ra_size G
  clear h
  go_enter Try.func70, Try.ntmps70
  go_wp2_with fail
  go_loopw [9] (fun i wr => ∃ k : Nat, k ≤ 256 ∧ i = .int .i64 (k : Int) ∧ RX wr R a (ff F (t : Int) G k) tl ∧ KF (fun k => k = R) w wr ∧ wr.heap[w.heap.size]? = some (.cells (ra G) 39 (0, 0))) (fun i _ => 256 - (intOf i).toNat)
  case atStart => exact ⟨0, by decide, rfl, by rw [ff_zero]; exact HX.out, KF.of (Ba.below_alloc _ _), hC.out⟩
  case round =>
    clear HX hC
    obtain ⟨k, hk, rfl, rx, kf, hc⟩ := hrel
    have RXH := hide rx
    have KFH := hide kf
    have HC := hide hc
    have hsz := kf.size
    clear rx kf hc
    by_cases hlt : k < 256
    · have hlt' : (k : Int) < 256 := by omega
      obtain ⟨c0, f0⟩ := RXH.out.cellR hlt
      rw [ff_at] at c0
      have lc : (loadCellsFrom ⟨w.heap.size, 0, none⟩ 0 256 #[]).run Try.prog wr.drew = .ok (ra G) wr.drew := ld_ref (RA.of (show wr.drew.heap[w.heap.size]? = some (.cells (ra G) 39 (0, 0)) from HC.out))
      obtain ⟨LC, hLC⟩ : ∃ LC : Nat → Sem (Array Value), ∀ n, loadCellsFrom (⟨w.heap.size, 0, none⟩ : Addr) 0 n #[] = LC n := ⟨fun n => loadCellsFrom (⟨w.heap.size, 0, none⟩ : Addr) 0 n #[], fun _ => rfl⟩
      rw [hLC] at lc
      have LK : Hid (∀ u, Below wr.drew.heap.size wr.drew u → (LC 256).run Try.prog u = .ok (ra G) u) := by
        intro u b
        rw [← hLC]
        exact ld_ref (RA.of ((b.block w.heap.size (by show w.heap.size < wr.heap.size; exact heap_lt' HC.out)).trans HC.out))
      by_cases hp : 0 < F k
      · have hp' : decide (0 < F k) = true := by simpa using hp
        have K1 := hide (fun u => KN.out ⟨(k : Int), F k, false, false⟩ u)
        obtain ⟨kb, hkb⟩ : ∃ kb, rkn ⟨(k : Int), F k, false, false⟩ (t : Int) G = kb := ⟨_, rfl⟩
        rw [hkb] at K1
        have HKB := hide hkb
        have HP := hide hp
        unfold acV at K1
        clear hkb hp
        have RD : Hid (RX wr.drew R a (ff F (t : Int) G k) tl) := RXH.out
        cases kb
        · have E1 : Hid (ff F (t : Int) G (k + 1) = ff F (t : Int) G k) := ff_same (fun q => by rw [HKB.out] at q; exact absurd q.2 (by decide))
          generalize ra G = AG at *
          generalize F k = fk at *
          go_wp2_with fail
          go_region_held3 (fun w' => w'.cell? ⟨R, 4 + k, none⟩ = some (.int .i64 fk) ∧ (LC 256).run Try.prog w' = .ok AG w')
            (first | (go_keep; done) | (go_split_ands; refine ⟨cellB ?_ b1, LK.out _ b1⟩; assumption))
            ((go_at_call 82; refine (K1.out _).mono ?_; rintro r w1 ⟨rfl, b1⟩))
          have R1 := hide (RD.out.below b1)
          have K2 := hide ((KFH.out.then (Ba.bdrew1 wr)).then b1)
          have H2 := hide ((b1.block w.heap.size (heap_lt' HC.out)).trans HC.out)
          go_wp2_with fail
          go_roundw
          case rel => exact ⟨k + 1, by omega, by go_num, by rw [E1.out]; exact R1.out, K2.out, H2.out⟩
          case measure => simp [intOf]; omega
        · have E1 : Hid (upF (ff F (t : Int) G k) k 0 = ff F (t : Int) G (k + 1)) := ff_set HP.out HKB.out
          generalize ra G = AG at *
          generalize F k = fk at *
          go_wp2_with fail
          go_region_held3 (fun w' => w'.cell? ⟨R, 4 + k, none⟩ = some (.int .i64 fk) ∧ (LC 256).run Try.prog w' = .ok AG w')
            (first | (go_keep; done) | (go_split_ands; refine ⟨cellB ?_ b1, LK.out _ b1⟩; assumption))
            ((go_at_call 82; refine (K1.out _).mono ?_; rintro r w1 ⟨rfl, b1⟩))
          have R1 := RD.out.below b1
          obtain ⟨d0, d1⟩ := R1.cellR hlt
          have R2 := hide (R1.setRead hlt 0)
          have K2 := hide (((KFH.out.then (Ba.bdrew1 wr)).then b1).set (q := R) rfl (4 + k) (.int .i64 0))
          have H2 : Hid ((w1.setCell ⟨R, 4 + k, none⟩ (.int .i64 0)).heap[w.heap.size]? = some (.cells AG 39 (0, 0))) := by
            rw [Below.heap_setCell _ _ _ _ (by show w.heap.size ≠ R; omega)]
            exact (b1.block w.heap.size (heap_lt' HC.out)).trans HC.out
          clear R1
          go_wp2_with fail
          go_roundw
          case rel => exact ⟨k + 1, by omega, by go_num, by rw [← E1.out]; exact R2.out, K2.out, H2.out⟩
          case measure => simp [intOf]; omega
      · have hp' : decide (0 < F k) = false := by simpa using hp
        have E1 : Hid (ff F (t : Int) G (k + 1) = ff F (t : Int) G k) := ff_same (fun q => hp q.1)
        clear hp
        generalize ra G = AG at *
        generalize F k = fk at *
        go_wp2_with fail
        go_quiet (fail)
        go_wp2_with fail
        go_roundw
        case rel => exact ⟨k + 1, by omega, by go_num, by rw [E1.out]; exact RXH.out.below (bdrew _ _), KFH.out.then (bdrew _ _), HC.out⟩
        case measure => simp [intOf]; omega
    · obtain rfl : k = 256 := by omega
      obtain ⟨c0, f0⟩ := RXH.out.cellR ht
      have RS := hide (RXH.out.setRead ht n)
      have KS := hide (KFH.out.set (q := R) rfl (4 + t) (.int .i64 n))
      have HS : Hid ((wr.setCell ⟨R, 4 + t, none⟩ (.int .i64 n)).heap[w.heap.size]? = some (.cells (ra G) 39 (0, 0))) := by
        rw [Below.heap_setCell _ _ _ _ (by show w.heap.size ≠ R; omega)]
        exact HC.out
      have htl : (t : Int) < 256 := by omega
      have K1 := hide (fun u => KN.out a u)
      obtain ⟨kb, hkb⟩ : ∃ kb, rkn a (t : Int) G = kb := ⟨_, rfl⟩
      rw [hkb] at K1
      unfold acV at K1
      have HRR : Hid (rrR a (t : Int) G = if kb = true then 0 else 1) := by show rrR a (t : Int) G = _; unfold rrR; rw [hkb]
      clear hkb RXH KFH HC KN
      cases kb
      all_goals
        go_wp2_with fail
        generalize wr.setCell ⟨R, 4 + t, none⟩ (.int .i64 n) = W2 at *
        obtain ⟨z0, z1, z2, z3, -⟩ := RS.out.cellA
        have lc : (loadCellsFrom ⟨w.heap.size, 0, none⟩ 0 256 #[]).run Try.prog W2.drew = .ok (ra G) W2.drew := ld_ref (RA.of (show W2.drew.heap[w.heap.size]? = some (.cells (ra G) 39 (0, 0)) from HS.out))
        obtain ⟨LC, hLC⟩ : ∃ LC : Nat → Sem (Array Value), ∀ n, loadCellsFrom (⟨w.heap.size, 0, none⟩ : Addr) 0 n #[] = LC n := ⟨fun n => loadCellsFrom (⟨w.heap.size, 0, none⟩ : Addr) 0 n #[], fun _ => rfl⟩
        rw [hLC] at lc
        have LK : Hid (∀ u, Below W2.drew.heap.size W2.drew u → (LC 256).run Try.prog u = .ok (ra G) u) := by
          intro u b
          rw [← hLC]
          exact ld_ref (RA.of ((b.block w.heap.size (by show w.heap.size < W2.heap.size; exact heap_lt' HS.out)).trans HS.out))
        generalize ra G = AG at *
        clear c0 f0
        go_region_held3 (fun w' => w'.cell? ⟨R, 0, none⟩ = some (.int .i64 a.tid) ∧ w'.cell? ⟨R, 1, none⟩ = some (.int .i64 a.n) ∧ w'.cell? ⟨R, 2, none⟩ = some (.bool a.no) ∧ w'.cell? ⟨R, 3, none⟩ = some (.bool a.tl) ∧ (LC 256).run Try.prog w' = .ok AG w')
          (first | (go_keep; done) | (go_split_ands; refine ⟨cellB ?_ b1, cellB ?_ b1, cellB ?_ b1, cellB ?_ b1, LK.out _ b1⟩ <;> assumption))
          ((go_at_call 82; refine (K1.out _).mono ?_; rintro r w1 ⟨rfl, b1⟩))
        have R1 := hide (RS.out.below (btr (Ba.bdrew1 W2) b1))
        have K2 := hide ((KS.out.then (Ba.bdrew1 W2)).then b1)
        go_wp2_with fail
        go_ret
        exact ⟨ret_int (by rw [HRR.out]; rfl), R1.out, K2.out⟩
end Ce
end Go.Proofs.Ytekdcfdjohlfcaa
/- Layer 18's reference, over this seat's program: Put, Retire, New. -/
namespace Go.Proofs.Ytekdcfdjohlfcaa
open Go.ChangeShapes Go.WideShapes Go.ChangeAt Go.RowKit
namespace Ce
open Ck
open Ba (KF Bd Nw)

/-- whether one of the first k is not known -/
def unk (F : Nat → Int) (own : Int) (G : Nat → Int) (k : Nat) : Bool := (List.range k).any fun j => decide (0 < F j) && !rkn ⟨(j : Int), F j, false, false⟩ own G
theorem unk_succ (F : Nat → Int) (own : Int) (G : Nat → Int) (k : Nat) : unk F own G (k + 1) = (unk F own G k || (decide (0 < F k) && !rkn ⟨(k : Int), F k, false, false⟩ own G)) := by
  unfold unk
  rw [List.range_succ, List.any_append]
  simp
def wi (b : Bool) : Int := bif b then 2 else 0
/-- what a write tells -/
def rpR (a : Ac) (F : Nat → Int) (tl : Bool) (own : Int) (G : Nat → Int) : Int := bif rkn a own G then wi (tl || unk F own G 256) else 1
/-- the first k are gone -/
def pk (F : Nat → Int) (k : Nat) : Nat → Int := fun j => if j < k then 0 else F j
theorem pk_zero (F : Nat → Int) : pk F 0 = F := by funext j; simp [pk]
theorem pk_at (F : Nat → Int) (k : Nat) : pk F k k = F k := by simp [pk]
theorem pk_set (F : Nat → Int) (k : Nat) : upF (pk F k) k 0 = pk F (k + 1) := by
  funext j
  unfold upF pk
  by_cases e : j = k
  · subst e; simp
  · rw [if_neg e]
    by_cases h : j < k
    · rw [if_pos h, if_pos (by omega)]
    · rw [if_neg h, if_neg (by omega)]
theorem RX.ext {w : World} {R : Nat} {a : Ac} {F H : Nat → Int} {tl : Bool} (h : RX w R a F tl) (e : ∀ k, k < 256 → H k = F k) : RX w R a H tl := by
  obtain ⟨cur, h, q⟩ := h
  exact ⟨cur, h, ⟨q.sz, q.c0, q.c1, q.c2, q.c3, fun k hk => by rw [e k hk]; exact q.rd k hk, q.ct⟩⟩

set_option maxRecDepth 100000 in
set_option maxHeartbeats 1600000 in
theorem rput_ok {w : World} {R : Nat} {a : Ac} {F : Nat → Int} {tl : Bool} (h : RX w R a F tl) (t n : Int) (G : Nat → Int) :
    Calls Try.prog 69 #[.pointer (some ⟨R, 0, none⟩), .int .i64 t, .int .i64 n, .agg (ra G)] w fun r w' => r = .returned (.int .i64 (rpR a F tl t G)) ∧ RX w' R ⟨t, n, false, false⟩ nf false ∧ KF (fun k => k = R) w w' := by
  have HX := hide (h.below (Ba.below_alloc w (.cells (ra G) 39)))
  have hR := h.lt
  obtain ⟨t0, -⟩ := HX.out.cellT
  have hC : Hid ((w.alloc (.cells (ra G) 39)).heap[w.heap.size]? = some (.cells (ra G) 39 (0, 0))) := heap_new _ _
  have KN := hide (fun x u => rknown_any x t G u)
  have rs := ra_size G
  have W0 : Hid (wi (tl || unk F t G 0) = if tl = true then 2 else 0) := by show wi (tl || unk F t G 0) = _; unfold wi unk; cases tl <;> simp
  clear h
  cases tl
  · simp only [Bool.false_eq_true, if_false] at W0
    go_enter Try.func69, Try.ntmps69
    go_wp2_with fail
    go_loopw [9, 10] (fun s i wr => ∃ k : Nat, k ≤ 256 ∧ i = .int .i64 (k : Int) ∧ (∃ wv, s = .int .i64 wv ∧ Hid (wv = wi (false || unk F t G k))) ∧ RX wr R a (pk F k) false ∧ KF (fun k => k = R) w wr ∧ wr.heap[w.heap.size]? = some (.cells (ra G) 39 (0, 0))) (fun _ i _ => 256 - (intOf i).toNat)
    case atStart => exact ⟨0, by decide, rfl, ⟨_, rfl, W0.out.symm⟩, by rw [pk_zero]; exact HX.out, KF.of (Ba.below_alloc _ _), hC.out⟩
    case round =>
      clear HX hC W0
      obtain ⟨k, hk, rfl, ⟨wv, rfl, hwv⟩, rx, kf, hc⟩ := hrel
      have RXH := hide rx
      have KFH := hide kf
      have HC := hide hc
      have hsz := kf.size
      clear rx kf hc
      by_cases hlt : k < 256
      · have hlt' : (k : Int) < 256 := by omega
        obtain ⟨c0, f0⟩ := RXH.out.cellR hlt
        rw [pk_at] at c0
        have lc : (loadCellsFrom ⟨w.heap.size, 0, none⟩ 0 256 #[]).run Try.prog wr.drew = .ok (ra G) wr.drew := ld_ref (RA.of (show wr.drew.heap[w.heap.size]? = some (.cells (ra G) 39 (0, 0)) from HC.out))
        obtain ⟨LC, hLC⟩ : ∃ LC : Nat → Sem (Array Value), ∀ n, loadCellsFrom (⟨w.heap.size, 0, none⟩ : Addr) 0 n #[] = LC n := ⟨fun n => loadCellsFrom (⟨w.heap.size, 0, none⟩ : Addr) 0 n #[], fun _ => rfl⟩
        rw [hLC] at lc
        have LK : Hid (∀ u, Below wr.drew.heap.size wr.drew u → (LC 256).run Try.prog u = .ok (ra G) u) := by
          intro u b
          rw [← hLC]
          exact ld_ref (RA.of ((b.block w.heap.size (by show w.heap.size < wr.heap.size; exact heap_lt' HC.out)).trans HC.out))
        have RD : Hid (RX wr.drew R a (pk F k) false) := RXH.out
        have US := hide (unk_succ F t G k)
        have PS := hide (pk_set F k)
        by_cases hp : 0 < F k
        · have hp' : decide (0 < F k) = true := by simpa using hp
          have K1 := hide (fun u => KN.out ⟨(k : Int), F k, false, false⟩ u)
          obtain ⟨kb, hkb⟩ : ∃ kb, rkn ⟨(k : Int), F k, false, false⟩ t G = kb := ⟨_, rfl⟩
          rw [hkb] at K1 US
          rw [hp'] at US
          unfold acV at K1
          clear hkb hp
          cases kb
          · have NW := hide (show (2 : Int) = wi (false || unk F t G (k + 1)) from by rw [US.out]; simp [wi])
            generalize ra G = AG at *
            generalize F k = fk at *
            go_wp2_with fail
            go_region_held3 (fun w' => w'.cell? ⟨R, 4 + k, none⟩ = some (.int .i64 fk) ∧ (LC 256).run Try.prog w' = .ok AG w')
              (first | (go_keep; done) | (go_split_ands; refine ⟨cellB ?_ b1, LK.out _ b1⟩; assumption))
              ((go_at_call 82; refine (K1.out _).mono ?_; rintro r w1 ⟨rfl, b1⟩))
            have R1 := RD.out.below b1
            obtain ⟨d0, d1⟩ := R1.cellR hlt
            have R2 := hide (R1.setRead hlt 0)
            have K2 := hide (((KFH.out.then (Ba.bdrew1 wr)).then b1).set (q := R) rfl (4 + k) (.int .i64 0))
            have H2 : Hid ((w1.setCell ⟨R, 4 + k, none⟩ (.int .i64 0)).heap[w.heap.size]? = some (.cells AG 39 (0, 0))) := by
              rw [Below.heap_setCell _ _ _ _ (by show w.heap.size ≠ R; omega)]
              exact (b1.block w.heap.size (heap_lt' HC.out)).trans HC.out
            clear R1
            go_wp2_with fail
            go_roundw
            case rel => exact ⟨k + 1, by omega, by go_num, ⟨2, rfl, NW.out⟩, by rw [← PS.out]; exact R2.out, K2.out, H2.out⟩
            case measure => simp [intOf]; omega
          · have NW := hide (show wv = wi (false || unk F t G (k + 1)) from by rw [US.out, hwv.out]; simp)
            generalize ra G = AG at *
            generalize F k = fk at *
            go_wp2_with fail
            go_region_held3 (fun w' => w'.cell? ⟨R, 4 + k, none⟩ = some (.int .i64 fk) ∧ (LC 256).run Try.prog w' = .ok AG w')
              (first | (go_keep; done) | (go_split_ands; refine ⟨cellB ?_ b1, LK.out _ b1⟩; assumption))
              ((go_at_call 82; refine (K1.out _).mono ?_; rintro r w1 ⟨rfl, b1⟩))
            have R1 := RD.out.below b1
            obtain ⟨d0, d1⟩ := R1.cellR hlt
            have R2 := hide (R1.setRead hlt 0)
            have K2 := hide (((KFH.out.then (Ba.bdrew1 wr)).then b1).set (q := R) rfl (4 + k) (.int .i64 0))
            have H2 : Hid ((w1.setCell ⟨R, 4 + k, none⟩ (.int .i64 0)).heap[w.heap.size]? = some (.cells AG 39 (0, 0))) := by
              rw [Below.heap_setCell _ _ _ _ (by show w.heap.size ≠ R; omega)]
              exact (b1.block w.heap.size (heap_lt' HC.out)).trans HC.out
            clear R1
            go_wp2_with fail
            go_roundw
            case rel => exact ⟨k + 1, by omega, by go_num, ⟨wv, rfl, NW.out⟩, by rw [← PS.out]; exact R2.out, K2.out, H2.out⟩
            case measure => simp [intOf]; omega
        · have hp' : decide (0 < F k) = false := by simpa using hp
          have NW := hide (show wv = wi (false || unk F t G (k + 1)) from by rw [US.out, hwv.out, hp']; simp)
          have R2 := hide (fun q => (RXH.out.below (bdrew wr q)).setRead hlt 0)
          have K2 := hide (fun q => (KFH.out.then (bdrew wr q)).set (q := R) rfl (4 + k) (.int .i64 0))
          have H2 : Hid (∀ q, ((wr.drewN q).setCell ⟨R, 4 + k, none⟩ (.int .i64 0)).heap[w.heap.size]? = some (.cells (ra G) 39 (0, 0))) := by
            intro q
            rw [Below.heap_setCell _ _ _ _ (by show w.heap.size ≠ R; omega)]
            exact HC.out
          clear hp
          generalize ra G = AG at *
          generalize F k = fk at *
          go_wp2_with fail
          go_quiet (fail)
          go_wp2_with fail
          go_roundw
          case rel => exact ⟨k + 1, by omega, by go_num, ⟨wv, rfl, NW.out⟩, by rw [← PS.out]; exact R2.out _, K2.out _, H2.out _⟩
          case measure => simp [intOf]; omega
      · obtain rfl : k = 256 := by omega
        have K1 := hide (fun u => KN.out a u)
        obtain ⟨kb, hkb⟩ : ∃ kb, rkn a t G = kb := ⟨_, rfl⟩
        rw [hkb] at K1
        unfold acV at K1
        have HRR : Hid (rpR a F false t G = bif kb then wv else 1) := by
          show rpR a F false t G = _
          unfold rpR
          rw [hkb, ← hwv.out]
        obtain ⟨z0, z1, z2, z3, -⟩ := RXH.out.cellA
        have lc : (loadCellsFrom ⟨w.heap.size, 0, none⟩ 0 256 #[]).run Try.prog wr.drew = .ok (ra G) wr.drew := ld_ref (RA.of (show wr.drew.heap[w.heap.size]? = some (.cells (ra G) 39 (0, 0)) from HC.out))
        obtain ⟨LC, hLC⟩ : ∃ LC : Nat → Sem (Array Value), ∀ n, loadCellsFrom (⟨w.heap.size, 0, none⟩ : Addr) 0 n #[] = LC n := ⟨fun n => loadCellsFrom (⟨w.heap.size, 0, none⟩ : Addr) 0 n #[], fun _ => rfl⟩
        rw [hLC] at lc
        have LK : Hid (∀ u, Below wr.drew.heap.size wr.drew u → (LC 256).run Try.prog u = .ok (ra G) u) := by
          intro u b
          rw [← hLC]
          exact ld_ref (RA.of ((b.block w.heap.size (by show w.heap.size < wr.heap.size; exact heap_lt' HC.out)).trans HC.out))
        clear hkb KN hwv
        generalize ra G = AG at *
        cases kb
        all_goals
          go_wp2_with fail
          go_region_held3 (fun w' => w'.cell? ⟨R, 0, none⟩ = some (.int .i64 a.tid) ∧ w'.cell? ⟨R, 1, none⟩ = some (.int .i64 a.n) ∧ w'.cell? ⟨R, 2, none⟩ = some (.bool a.no) ∧ w'.cell? ⟨R, 3, none⟩ = some (.bool a.tl) ∧ (LC 256).run Try.prog w' = .ok AG w')
            (first | (go_keep; done) | (go_split_ands; refine ⟨cellB ?_ b1, cellB ?_ b1, cellB ?_ b1, cellB ?_ b1, LK.out _ b1⟩ <;> assumption))
            ((go_at_call 82; refine (K1.out _).mono ?_; rintro r w1 ⟨rfl, b1⟩))
          have R1 := RXH.out.below (btr (Ba.bdrew1 wr) b1)
          have K2 := (KFH.out.then (Ba.bdrew1 wr)).then b1
          obtain ⟨e0, e1⟩ := R1.cellT
          have R2 := R1.setTl false
          have K3 := K2.set (q := R) rfl 260 (.bool false)
          obtain ⟨x0, x1, x2, x3, xf⟩ := R2.cellA
          have xf0 := xf 0
          have xf1 := xf 1
          have xf2 := xf 2
          have xf3 := xf 3
          have R3 := hide ((R2.setAc t n false false).ext (H := nf) (fun k hk => by simp [nf, pk, hk]))
          have K4 := hide ((((K3.set (q := R) rfl 0 (.int .i64 t)).set (q := R) rfl 1 (.int .i64 n)).set (q := R) rfl 2 (.bool false)).set (q := R) rfl 3 (.bool false))
          clear R1 R2 K2 K3 xf
          go_wp2_with fail
          go_ret
          exact ⟨ret_int (by rw [HRR.out]; rfl), R3.out, K4.out⟩
  · simp only [if_true] at W0
    go_enter Try.func69, Try.ntmps69
    go_wp2_with fail
    go_loopw [9, 10] (fun s i wr => ∃ k : Nat, k ≤ 256 ∧ i = .int .i64 (k : Int) ∧ (∃ wv, s = .int .i64 wv ∧ Hid (wv = wi (true || unk F t G k))) ∧ RX wr R a (pk F k) true ∧ KF (fun k => k = R) w wr ∧ wr.heap[w.heap.size]? = some (.cells (ra G) 39 (0, 0))) (fun _ i _ => 256 - (intOf i).toNat)
    case atStart => exact ⟨0, by decide, rfl, ⟨_, rfl, W0.out.symm⟩, by rw [pk_zero]; exact HX.out, KF.of (Ba.below_alloc _ _), hC.out⟩
    case round =>
      clear HX hC W0
      obtain ⟨k, hk, rfl, ⟨wv, rfl, hwv⟩, rx, kf, hc⟩ := hrel
      have RXH := hide rx
      have KFH := hide kf
      have HC := hide hc
      have hsz := kf.size
      clear rx kf hc
      by_cases hlt : k < 256
      · have hlt' : (k : Int) < 256 := by omega
        obtain ⟨c0, f0⟩ := RXH.out.cellR hlt
        rw [pk_at] at c0
        have lc : (loadCellsFrom ⟨w.heap.size, 0, none⟩ 0 256 #[]).run Try.prog wr.drew = .ok (ra G) wr.drew := ld_ref (RA.of (show wr.drew.heap[w.heap.size]? = some (.cells (ra G) 39 (0, 0)) from HC.out))
        obtain ⟨LC, hLC⟩ : ∃ LC : Nat → Sem (Array Value), ∀ n, loadCellsFrom (⟨w.heap.size, 0, none⟩ : Addr) 0 n #[] = LC n := ⟨fun n => loadCellsFrom (⟨w.heap.size, 0, none⟩ : Addr) 0 n #[], fun _ => rfl⟩
        rw [hLC] at lc
        have LK : Hid (∀ u, Below wr.drew.heap.size wr.drew u → (LC 256).run Try.prog u = .ok (ra G) u) := by
          intro u b
          rw [← hLC]
          exact ld_ref (RA.of ((b.block w.heap.size (by show w.heap.size < wr.heap.size; exact heap_lt' HC.out)).trans HC.out))
        have RD : Hid (RX wr.drew R a (pk F k) true) := RXH.out
        have US := hide (unk_succ F t G k)
        have PS := hide (pk_set F k)
        by_cases hp : 0 < F k
        · have hp' : decide (0 < F k) = true := by simpa using hp
          have K1 := hide (fun u => KN.out ⟨(k : Int), F k, false, false⟩ u)
          obtain ⟨kb, hkb⟩ : ∃ kb, rkn ⟨(k : Int), F k, false, false⟩ t G = kb := ⟨_, rfl⟩
          rw [hkb] at K1 US
          rw [hp'] at US
          unfold acV at K1
          clear hkb hp
          cases kb
          · have NW := hide (show (2 : Int) = wi (true || unk F t G (k + 1)) from by rw [US.out]; simp [wi])
            generalize ra G = AG at *
            generalize F k = fk at *
            go_wp2_with fail
            go_region_held3 (fun w' => w'.cell? ⟨R, 4 + k, none⟩ = some (.int .i64 fk) ∧ (LC 256).run Try.prog w' = .ok AG w')
              (first | (go_keep; done) | (go_split_ands; refine ⟨cellB ?_ b1, LK.out _ b1⟩; assumption))
              ((go_at_call 82; refine (K1.out _).mono ?_; rintro r w1 ⟨rfl, b1⟩))
            have R1 := RD.out.below b1
            obtain ⟨d0, d1⟩ := R1.cellR hlt
            have R2 := hide (R1.setRead hlt 0)
            have K2 := hide (((KFH.out.then (Ba.bdrew1 wr)).then b1).set (q := R) rfl (4 + k) (.int .i64 0))
            have H2 : Hid ((w1.setCell ⟨R, 4 + k, none⟩ (.int .i64 0)).heap[w.heap.size]? = some (.cells AG 39 (0, 0))) := by
              rw [Below.heap_setCell _ _ _ _ (by show w.heap.size ≠ R; omega)]
              exact (b1.block w.heap.size (heap_lt' HC.out)).trans HC.out
            clear R1
            go_wp2_with fail
            go_roundw
            case rel => exact ⟨k + 1, by omega, by go_num, ⟨2, rfl, NW.out⟩, by rw [← PS.out]; exact R2.out, K2.out, H2.out⟩
            case measure => simp [intOf]; omega
          · have NW := hide (show wv = wi (true || unk F t G (k + 1)) from by rw [US.out, hwv.out]; simp)
            generalize ra G = AG at *
            generalize F k = fk at *
            go_wp2_with fail
            go_region_held3 (fun w' => w'.cell? ⟨R, 4 + k, none⟩ = some (.int .i64 fk) ∧ (LC 256).run Try.prog w' = .ok AG w')
              (first | (go_keep; done) | (go_split_ands; refine ⟨cellB ?_ b1, LK.out _ b1⟩; assumption))
              ((go_at_call 82; refine (K1.out _).mono ?_; rintro r w1 ⟨rfl, b1⟩))
            have R1 := RD.out.below b1
            obtain ⟨d0, d1⟩ := R1.cellR hlt
            have R2 := hide (R1.setRead hlt 0)
            have K2 := hide (((KFH.out.then (Ba.bdrew1 wr)).then b1).set (q := R) rfl (4 + k) (.int .i64 0))
            have H2 : Hid ((w1.setCell ⟨R, 4 + k, none⟩ (.int .i64 0)).heap[w.heap.size]? = some (.cells AG 39 (0, 0))) := by
              rw [Below.heap_setCell _ _ _ _ (by show w.heap.size ≠ R; omega)]
              exact (b1.block w.heap.size (heap_lt' HC.out)).trans HC.out
            clear R1
            go_wp2_with fail
            go_roundw
            case rel => exact ⟨k + 1, by omega, by go_num, ⟨wv, rfl, NW.out⟩, by rw [← PS.out]; exact R2.out, K2.out, H2.out⟩
            case measure => simp [intOf]; omega
        · have hp' : decide (0 < F k) = false := by simpa using hp
          have NW := hide (show wv = wi (true || unk F t G (k + 1)) from by rw [US.out, hwv.out, hp']; simp)
          have R2 := hide (fun q => (RXH.out.below (bdrew wr q)).setRead hlt 0)
          have K2 := hide (fun q => (KFH.out.then (bdrew wr q)).set (q := R) rfl (4 + k) (.int .i64 0))
          have H2 : Hid (∀ q, ((wr.drewN q).setCell ⟨R, 4 + k, none⟩ (.int .i64 0)).heap[w.heap.size]? = some (.cells (ra G) 39 (0, 0))) := by
            intro q
            rw [Below.heap_setCell _ _ _ _ (by show w.heap.size ≠ R; omega)]
            exact HC.out
          clear hp
          generalize ra G = AG at *
          generalize F k = fk at *
          go_wp2_with fail
          go_quiet (fail)
          go_wp2_with fail
          go_roundw
          case rel => exact ⟨k + 1, by omega, by go_num, ⟨wv, rfl, NW.out⟩, by rw [← PS.out]; exact R2.out _, K2.out _, H2.out _⟩
          case measure => simp [intOf]; omega
      · obtain rfl : k = 256 := by omega
        have K1 := hide (fun u => KN.out a u)
        obtain ⟨kb, hkb⟩ : ∃ kb, rkn a t G = kb := ⟨_, rfl⟩
        rw [hkb] at K1
        unfold acV at K1
        have HRR : Hid (rpR a F true t G = bif kb then wv else 1) := by
          show rpR a F true t G = _
          unfold rpR
          rw [hkb, ← hwv.out]
        obtain ⟨z0, z1, z2, z3, -⟩ := RXH.out.cellA
        have lc : (loadCellsFrom ⟨w.heap.size, 0, none⟩ 0 256 #[]).run Try.prog wr.drew = .ok (ra G) wr.drew := ld_ref (RA.of (show wr.drew.heap[w.heap.size]? = some (.cells (ra G) 39 (0, 0)) from HC.out))
        obtain ⟨LC, hLC⟩ : ∃ LC : Nat → Sem (Array Value), ∀ n, loadCellsFrom (⟨w.heap.size, 0, none⟩ : Addr) 0 n #[] = LC n := ⟨fun n => loadCellsFrom (⟨w.heap.size, 0, none⟩ : Addr) 0 n #[], fun _ => rfl⟩
        rw [hLC] at lc
        have LK : Hid (∀ u, Below wr.drew.heap.size wr.drew u → (LC 256).run Try.prog u = .ok (ra G) u) := by
          intro u b
          rw [← hLC]
          exact ld_ref (RA.of ((b.block w.heap.size (by show w.heap.size < wr.heap.size; exact heap_lt' HC.out)).trans HC.out))
        clear hkb KN hwv
        generalize ra G = AG at *
        cases kb
        all_goals
          go_wp2_with fail
          go_region_held3 (fun w' => w'.cell? ⟨R, 0, none⟩ = some (.int .i64 a.tid) ∧ w'.cell? ⟨R, 1, none⟩ = some (.int .i64 a.n) ∧ w'.cell? ⟨R, 2, none⟩ = some (.bool a.no) ∧ w'.cell? ⟨R, 3, none⟩ = some (.bool a.tl) ∧ (LC 256).run Try.prog w' = .ok AG w')
            (first | (go_keep; done) | (go_split_ands; refine ⟨cellB ?_ b1, cellB ?_ b1, cellB ?_ b1, cellB ?_ b1, LK.out _ b1⟩ <;> assumption))
            ((go_at_call 82; refine (K1.out _).mono ?_; rintro r w1 ⟨rfl, b1⟩))
          have R1 := RXH.out.below (btr (Ba.bdrew1 wr) b1)
          have K2 := (KFH.out.then (Ba.bdrew1 wr)).then b1
          obtain ⟨e0, e1⟩ := R1.cellT
          have R2 := R1.setTl false
          have K3 := K2.set (q := R) rfl 260 (.bool false)
          obtain ⟨x0, x1, x2, x3, xf⟩ := R2.cellA
          have xf0 := xf 0
          have xf1 := xf 1
          have xf2 := xf 2
          have xf3 := xf 3
          have R3 := hide ((R2.setAc t n false false).ext (H := nf) (fun k hk => by simp [nf, pk, hk]))
          have K4 := hide ((((K3.set (q := R) rfl 0 (.int .i64 t)).set (q := R) rfl 1 (.int .i64 n)).set (q := R) rfl 2 (.bool false)).set (q := R) rfl 3 (.bool false))
          clear R1 R2 K2 K3 xf
          go_wp2_with fail
          go_ret
          exact ⟨ret_int (by rw [HRR.out]; rfl), R3.out, K4.out⟩
end Ce
end Go.Proofs.Ytekdcfdjohlfcaa
/- Layer 18's reference, over this seat's program: Retire, New. -/
namespace Go.Proofs.Ytekdcfdjohlfcaa
open Go.ChangeShapes Go.WideShapes Go.ChangeAt Go.RowKit
namespace Ce
open Ck
open Ba (KF Bd Nw)

/-- an access whose tid is retired -/
def rtA (a : Ac) (t cut : Int) : Ac := bif (!a.no && !a.tl && (a.tid == t)) then (bif decide (a.n ≤ cut) then ⟨0, 0, true, false⟩ else ⟨0, 0, false, true⟩) else a
theorem rret_arg (p : Value) (tid cut : Int) (h : tid < 0 ∨ 256 ≤ tid ∨ cut < 0 ∨ 1048576 < cut) (w : World) : Calls Try.prog 68 #[p, .int .i64 tid, .int .i64 cut] w fun r w' => r = .returned (.int .i64 1) ∧ w' = w := by
  by_cases h1 : tid < 0
  · clear h
    go_enter Try.func68, Try.ntmps68
    go_wp2_with fail
    go_ret
    exact ⟨rfl, rfl⟩
  by_cases h2 : 256 ≤ tid
  · clear h
    go_enter Try.func68, Try.ntmps68
    go_wp2_with fail
    go_ret
    exact ⟨rfl, rfl⟩
  by_cases h3 : cut < 0
  · clear h
    go_enter Try.func68, Try.ntmps68
    go_wp2_with fail
    go_ret
    exact ⟨rfl, rfl⟩
  have h4 : 1048576 < cut := by omega
  clear h
  go_enter Try.func68, Try.ntmps68
  go_wp2_with fail
  go_ret
  exact ⟨rfl, rfl⟩

set_option maxRecDepth 100000 in
set_option maxHeartbeats 800000 in
/-- the reads, from whatever world the last write is right in -/
theorem rret_ok {w : World} {R : Nat} {a : Ac} {F : Nat → Int} {tl : Bool} (h : RX w R a F tl) (t : Nat) (ht : t < 256) (cut : Int) (h2 : 0 ≤ cut) (h3 : cut ≤ 1048576) :
    Calls Try.prog 68 #[.pointer (some ⟨R, 0, none⟩), .int .i64 (t : Int), .int .i64 cut] w fun r w' => r = .returned (.int .i64 0) ∧ RX w' R (rtA a (t : Int) cut) (upF F t 0) (tl || decide (cut < F t)) ∧ KF (fun k => k = R) w w' := by
  obtain ⟨z0, z1, z2, z3, zf⟩ := h.cellA
  have zf0 := zf 0
  have zf1 := zf 1
  have zf2 := zf 2
  have zf3 := zf 3
  have HX := hide h
  clear h zf
  have ht' : (t : Int) < 256 := by omega
  obtain ⟨at_, an, ano, atl⟩ := a
  have z0 : w.cell? ⟨R, 0, none⟩ = some (.int .i64 at_) := z0
  have z1 : w.cell? ⟨R, 1, none⟩ = some (.int .i64 an) := z1
  have z2 : w.cell? ⟨R, 2, none⟩ = some (.bool ano) := z2
  have z3 : w.cell? ⟨R, 3, none⟩ = some (.bool atl) := z3
  have REST : Hid (∀ W a', RX W R a' F tl → KF (fun k => k = R) w W → W.cell? ⟨R, 4 + t, none⟩ = some (.int .i64 (F t)) ∧ W.frozen? ⟨R, 4 + t, none⟩ = false ∧ W.cell? ⟨R, 260, none⟩ = some (.bool tl) ∧ W.frozen? ⟨R, 260, none⟩ = false ∧
      (RX (W.setCell ⟨R, 4 + t, none⟩ (.int .i64 0)) R a' (upF F t 0) tl ∧ KF (fun k => k = R) w (W.setCell ⟨R, 4 + t, none⟩ (.int .i64 0))) ∧
      ((W.setCell ⟨R, 260, none⟩ (.bool true)).cell? ⟨R, 4 + t, none⟩ = some (.int .i64 (F t)) ∧ (W.setCell ⟨R, 260, none⟩ (.bool true)).frozen? ⟨R, 4 + t, none⟩ = false ∧ RX ((W.setCell ⟨R, 260, none⟩ (.bool true)).setCell ⟨R, 4 + t, none⟩ (.int .i64 0)) R a' (upF F t 0) true ∧ KF (fun k => k = R) w ((W.setCell ⟨R, 260, none⟩ (.bool true)).setCell ⟨R, 4 + t, none⟩ (.int .i64 0)))) := by
    intro W a' hX hK
    have T := hX.setTl true
    exact ⟨(hX.cellR ht).1, (hX.cellR ht).2, hX.cellT.1, hX.cellT.2, ⟨hX.setRead ht 0, hK.set (q := R) rfl _ _⟩, (T.cellR ht).1, (T.cellR ht).2, T.setRead ht 0, (hK.set (q := R) rfl 260 (.bool true)).set (q := R) rfl _ _⟩
  have A1 := hide (HX.out.setAc 0 0 true false)
  have A2 := hide (HX.out.setAc 0 0 false true)
  have B1 := hide (fun x y => ((((KF.refl (fun k => k = R) w).set (q := R) rfl 0 (.int .i64 0)).set (q := R) rfl 1 (.int .i64 0)).set (q := R) rfl 2 (.bool x)).set (q := R) rfl 3 (.bool y))
  obtain ⟨gb, hgb⟩ : ∃ gb, (!ano && !atl && (at_ == (t : Int))) = gb := ⟨_, rfl⟩
  cases gb
  · have RA1 : Hid (rtA ⟨at_, an, ano, atl⟩ (t : Int) cut = ⟨at_, an, ano, atl⟩) := by show rtA _ _ _ = _; unfold rtA; rw [hgb]; rfl
    rw [RA1.out]
    obtain ⟨y0, y1, -, -, ⟨p1, p2⟩, y4, y5, p3, p4⟩ := REST.out w _ HX.out (KF.refl _ _)
    obtain ⟨y2, y3⟩ := HX.out.cellT
    have P1 := hide p1
    have P2 := hide p2
    have P3 := hide p3
    have P4 := hide p4
    clear p1 p2 p3 p4 REST A1 A2 B1 HX RA1
    by_cases hf : cut < F t
    · have E : Hid ((tl || decide (cut < F t)) = true) := by show _ = true; simp [hf]
      rw [E.out]
      have hf' : decide (cut < F t) = true := by simpa using hf
      cases ano <;> cases atl
      case false.false =>
        have hq : (at_ == (t : Int)) = false := by simpa using hgb
        clear hgb
        go_enter Try.func68, Try.ntmps68
        go_wp2_with fail
        go_ret
        exact ⟨rfl, P3.out, P4.out⟩
      all_goals
        clear hgb
        go_enter Try.func68, Try.ntmps68
        go_wp2_with fail
        go_ret
        exact ⟨rfl, P3.out, P4.out⟩
    · have E : Hid ((tl || decide (cut < F t)) = tl) := by show _ = tl; simp [hf]
      rw [E.out]
      have hf' : decide (cut < F t) = false := by simpa using hf
      cases ano <;> cases atl
      case false.false =>
        have hq : (at_ == (t : Int)) = false := by simpa using hgb
        clear hgb
        go_enter Try.func68, Try.ntmps68
        go_wp2_with fail
        go_ret
        exact ⟨rfl, P1.out, P2.out⟩
      all_goals
        clear hgb
        go_enter Try.func68, Try.ntmps68
        go_wp2_with fail
        go_ret
        exact ⟨rfl, P1.out, P2.out⟩
  · obtain ⟨⟨e1, e2⟩, e3⟩ : (ano = false ∧ atl = false) ∧ (at_ == (t : Int)) = true := by simpa using hgb
    subst e1 e2
    clear hgb
    by_cases hn : an ≤ cut
    · have hn' : decide (an ≤ cut) = true := by simpa using hn
      have RA1 : Hid (rtA ⟨at_, an, false, false⟩ (t : Int) cut = ⟨0, 0, true, false⟩) := by show rtA _ _ _ = _; unfold rtA; simp only [e3, hn']; rfl
      rw [RA1.out]
      have BB := hide (B1.out true false)
      have AA := hide A1.out
      clear A1 A2 B1 HX RA1
      by_cases hf : cut < F t
      · have E : Hid ((tl || decide (cut < F t)) = true) := by show _ = true; simp [hf]
        rw [E.out]
        have hf' : decide (cut < F t) = true := by simpa using hf
        go_enter Try.func68, Try.ntmps68
        go_upto_region 7 with fail
        generalize (((w.setCell ⟨R, 0, none⟩ (.int .i64 0)).setCell ⟨R, 1, none⟩ (.int .i64 0)).setCell ⟨R, 2, none⟩ (.bool true)).setCell ⟨R, 3, none⟩ (.bool false) = W at *
        obtain ⟨y0, y1, y2, y3, ⟨p1, p2⟩, y4, y5, p3, p4⟩ := REST.out W _ AA.out BB.out
        have P1 := hide p1
        have P2 := hide p2
        have P3 := hide p3
        have P4 := hide p4
        clear p1 p2 p3 p4 REST AA BB z0 z1 z2 z3 zf0 zf1 zf2 zf3
        go_wp2_with fail
        go_ret
        exact ⟨rfl, P3.out, P4.out⟩
      · have E : Hid ((tl || decide (cut < F t)) = tl) := by show _ = tl; simp [hf]
        rw [E.out]
        have hf' : decide (cut < F t) = false := by simpa using hf
        go_enter Try.func68, Try.ntmps68
        go_upto_region 7 with fail
        generalize (((w.setCell ⟨R, 0, none⟩ (.int .i64 0)).setCell ⟨R, 1, none⟩ (.int .i64 0)).setCell ⟨R, 2, none⟩ (.bool true)).setCell ⟨R, 3, none⟩ (.bool false) = W at *
        obtain ⟨y0, y1, y2, y3, ⟨p1, p2⟩, y4, y5, p3, p4⟩ := REST.out W _ AA.out BB.out
        have P1 := hide p1
        have P2 := hide p2
        have P3 := hide p3
        have P4 := hide p4
        clear p1 p2 p3 p4 REST AA BB z0 z1 z2 z3 zf0 zf1 zf2 zf3
        go_wp2_with fail
        go_ret
        exact ⟨rfl, P1.out, P2.out⟩
    · have hn' : decide (an ≤ cut) = false := by simpa using hn
      have RA1 : Hid (rtA ⟨at_, an, false, false⟩ (t : Int) cut = ⟨0, 0, false, true⟩) := by show rtA _ _ _ = _; unfold rtA; simp only [e3, hn']; rfl
      rw [RA1.out]
      have BB := hide (B1.out false true)
      have AA := hide A2.out
      clear A1 A2 B1 HX RA1
      by_cases hf : cut < F t
      · have E : Hid ((tl || decide (cut < F t)) = true) := by show _ = true; simp [hf]
        rw [E.out]
        have hf' : decide (cut < F t) = true := by simpa using hf
        go_enter Try.func68, Try.ntmps68
        go_upto_region 7 with fail
        generalize (((w.setCell ⟨R, 0, none⟩ (.int .i64 0)).setCell ⟨R, 1, none⟩ (.int .i64 0)).setCell ⟨R, 2, none⟩ (.bool false)).setCell ⟨R, 3, none⟩ (.bool true) = W at *
        obtain ⟨y0, y1, y2, y3, ⟨p1, p2⟩, y4, y5, p3, p4⟩ := REST.out W _ AA.out BB.out
        have P1 := hide p1
        have P2 := hide p2
        have P3 := hide p3
        have P4 := hide p4
        clear p1 p2 p3 p4 REST AA BB z0 z1 z2 z3 zf0 zf1 zf2 zf3
        go_wp2_with fail
        go_ret
        exact ⟨rfl, P3.out, P4.out⟩
      · have E : Hid ((tl || decide (cut < F t)) = tl) := by show _ = tl; simp [hf]
        rw [E.out]
        have hf' : decide (cut < F t) = false := by simpa using hf
        go_enter Try.func68, Try.ntmps68
        go_upto_region 7 with fail
        generalize (((w.setCell ⟨R, 0, none⟩ (.int .i64 0)).setCell ⟨R, 1, none⟩ (.int .i64 0)).setCell ⟨R, 2, none⟩ (.bool false)).setCell ⟨R, 3, none⟩ (.bool true) = W at *
        obtain ⟨y0, y1, y2, y3, ⟨p1, p2⟩, y4, y5, p3, p4⟩ := REST.out W _ AA.out BB.out
        have P1 := hide p1
        have P2 := hide p2
        have P3 := hide p3
        have P4 := hide p4
        clear p1 p2 p3 p4 REST AA BB z0 z1 z2 z3 zf0 zf1 zf2 zf3
        go_wp2_with fail
        go_ret
        exact ⟨rfl, P1.out, P2.out⟩

def cell0 : Array Value := #[.int .i64 0, .int .i64 0, .bool true, .bool false] ++ ra nf ++ #[.bool false]
theorem zc : ((((Try.zeroCells81.setIfInBounds 0 (Value.int .i64 0)).setIfInBounds 1 (Value.int .i64 0)).setIfInBounds 2 (Value.bool true)).setIfInBounds 3 (Value.bool false)) = cell0 := by kernel_rfl
theorem rx0 : RXc cell0 ⟨0, 0, true, false⟩ nf false := by
  have hs := ra_size nf
  refine ⟨by simp [cell0, hs], ?_, ?_, ?_, ?_, fun k hk => ?_, ?_⟩
  · unfold cell0; rw [Array.append_assoc, Array.getElem?_append_left (by decide)]; rfl
  · unfold cell0; rw [Array.append_assoc, Array.getElem?_append_left (by decide)]; rfl
  · unfold cell0; rw [Array.append_assoc, Array.getElem?_append_left (by decide)]; rfl
  · unfold cell0; rw [Array.append_assoc, Array.getElem?_append_left (by decide)]; rfl
  · unfold cell0
    rw [Array.getElem?_append_left (by rw [Array.size_append, hs]; show 4 + k < 4 + 256; omega), Array.getElem?_append_right (by show 4 ≤ 4 + k; omega)]
    show (ra nf)[4 + k - 4]? = _
    rw [Nat.add_sub_cancel_left]
    exact ra_at nf k hk
  · unfold cell0
    rw [Array.getElem?_append_right (by rw [Array.size_append, hs]; decide)]
    rw [Array.size_append, hs]
    rfl
end Ce
end Go.Proofs.Ytekdcfdjohlfcaa
/- Layer 18's reference as a part of a greater block, over this seat's program: a cell of it at an offset; what lies around it. -/
namespace Go.Proofs.Ytekdcfdjohlfcaa
open Go.ChangeShapes Go.WideShapes Go.ChangeAt Go.RowKit
namespace Co
open Ck Ce
open Ba (KF Bd Nw)

/-- a cell of the reference at o of block R; around it all is as in W0 -/
structure RO (W0 : World) (R o : Nat) (w : World) (a : Ac) (F : Nat → Int) (tl : Bool) : Prop where
  lt : R < w.heap.size
  fz : ∀ p, w.frozen? ⟨R, p, none⟩ = false
  c0 : w.cell? ⟨R, o, none⟩ = some (.int .i64 a.tid)
  c1 : w.cell? ⟨R, o + 1, none⟩ = some (.int .i64 a.n)
  c2 : w.cell? ⟨R, o + 2, none⟩ = some (.bool a.no)
  c3 : w.cell? ⟨R, o + 3, none⟩ = some (.bool a.tl)
  rd : ∀ k, k < 256 → w.cell? ⟨R, o + 4 + k, none⟩ = some (.int .i64 (F k))
  ct : w.cell? ⟨R, o + 260, none⟩ = some (.bool tl)
  fr : ∀ p, (p < o ∨ o + 261 ≤ p) → w.cell? ⟨R, p, none⟩ = W0.cell? ⟨R, p, none⟩
section
variable {W0 w w' : World} {R o : Nat} {a : Ac} {F : Nat → Int} {tl : Bool}
theorem RO.block (h : RO W0 R o w a F tl) (e : w'.heap[R]? = w.heap[R]?) : RO W0 R o w' a F tl := by
  have ec : ∀ p, w'.cell? ⟨R, p, none⟩ = w.cell? ⟨R, p, none⟩ := fun p => World.cell?_of_block (w := w) (a := ⟨R, p, none⟩) e
  have ef : ∀ p, w'.frozen? ⟨R, p, none⟩ = w.frozen? ⟨R, p, none⟩ := fun p => World.frozen?_of_block (w := w) (a := ⟨R, p, none⟩) e
  have hlt : R < w'.heap.size := by
    have h1 := h.lt
    rw [Array.getElem?_eq_getElem h1] at e
    exact (Array.getElem?_eq_some_iff.1 e).1
  exact ⟨hlt, fun p => (ef p).trans (h.fz p), (ec _).trans h.c0, (ec _).trans h.c1, (ec _).trans h.c2, (ec _).trans h.c3, fun k hk => (ec _).trans (h.rd k hk), (ec _).trans h.ct, fun p hp => (ec p).trans (h.fr p hp)⟩
theorem RO.below (h : RO W0 R o w a F tl) (b : Below w.heap.size w w') : RO W0 R o w' a F tl := h.block (b.block R h.lt)
theorem other (w : World) (R p q : Nat) (v : Value) (h : p ≠ q) : (w.setCell ⟨R, q, none⟩ v).cell? ⟨R, p, none⟩ = w.cell? ⟨R, p, none⟩ :=
  World.cell?_setCell_other _ _ _ _ (fun e => h (congrArg Addr.off e).symm)
theorem size_set (w : World) (A : Addr) (v : Value) : (w.setCell A v).heap.size = w.heap.size := by simp [World.setCell]
theorem RO.setRead (h : RO W0 R o w a F tl) {k : Nat} (hk : k < 256) (v : Int) : RO W0 R o (w.setCell ⟨R, o + 4 + k, none⟩ (.int .i64 v)) a (upF F k v) tl := by
  refine ⟨by rw [size_set]; exact h.lt, fun p => by rw [World.frozen?_setCell]; exact h.fz p, ?_, ?_, ?_, ?_, fun j hj => ?_, ?_, fun p hp => ?_⟩
  · rw [other _ _ _ _ _ (by omega)]; exact h.c0
  · rw [other _ _ _ _ _ (by omega)]; exact h.c1
  · rw [other _ _ _ _ _ (by omega)]; exact h.c2
  · rw [other _ _ _ _ _ (by omega)]; exact h.c3
  · by_cases e : j = k
    · subst e
      rw [World.cell?_setCell_same _ _ _ (h.rd j hj)]
      simp [upF]
    · rw [other _ _ _ _ _ (by omega), h.rd j hj]
      simp [upF, e]
  · rw [other _ _ _ _ _ (by omega)]; exact h.ct
  · rw [other _ _ _ _ _ (by omega)]; exact h.fr p hp
theorem RO.setTl (h : RO W0 R o w a F tl) (b : Bool) : RO W0 R o (w.setCell ⟨R, o + 260, none⟩ (.bool b)) a F b := by
  refine ⟨by rw [size_set]; exact h.lt, fun p => by rw [World.frozen?_setCell]; exact h.fz p, ?_, ?_, ?_, ?_, fun j hj => ?_, ?_, fun p hp => ?_⟩
  · rw [other _ _ _ _ _ (by omega)]; exact h.c0
  · rw [other _ _ _ _ _ (by omega)]; exact h.c1
  · rw [other _ _ _ _ _ (by omega)]; exact h.c2
  · rw [other _ _ _ _ _ (by omega)]; exact h.c3
  · rw [other _ _ _ _ _ (by omega)]; exact h.rd j hj
  · exact World.cell?_setCell_same _ _ _ h.ct
  · rw [other _ _ _ _ _ (by omega)]; exact h.fr p hp
theorem RO.setAc (h : RO W0 R o w a F tl) (t n : Int) (no ta : Bool) : RO W0 R o ((((w.setCell ⟨R, o, none⟩ (.int .i64 t)).setCell ⟨R, o + 1, none⟩ (.int .i64 n)).setCell ⟨R, o + 2, none⟩ (.bool no)).setCell ⟨R, o + 3, none⟩ (.bool ta)) ⟨t, n, no, ta⟩ F tl := by
  have e1 : (w.setCell ⟨R, o, none⟩ (.int .i64 t)).cell? ⟨R, o + 1, none⟩ = _ := (other _ _ _ _ _ (by omega)).trans h.c1
  have e2 : ((w.setCell ⟨R, o, none⟩ (.int .i64 t)).setCell ⟨R, o + 1, none⟩ (.int .i64 n)).cell? ⟨R, o + 2, none⟩ = _ := (other _ _ _ _ _ (by omega)).trans ((other _ _ _ _ _ (by omega)).trans h.c2)
  have e3 : (((w.setCell ⟨R, o, none⟩ (.int .i64 t)).setCell ⟨R, o + 1, none⟩ (.int .i64 n)).setCell ⟨R, o + 2, none⟩ (.bool no)).cell? ⟨R, o + 3, none⟩ = _ := (other _ _ _ _ _ (by omega)).trans ((other _ _ _ _ _ (by omega)).trans ((other _ _ _ _ _ (by omega)).trans h.c3))
  have far : ∀ p, p < o ∨ o + 4 ≤ p → ((((w.setCell ⟨R, o, none⟩ (.int .i64 t)).setCell ⟨R, o + 1, none⟩ (.int .i64 n)).setCell ⟨R, o + 2, none⟩ (.bool no)).setCell ⟨R, o + 3, none⟩ (.bool ta)).cell? ⟨R, p, none⟩ = w.cell? ⟨R, p, none⟩ := fun p hp => by
    rw [other _ _ _ _ _ (by omega), other _ _ _ _ _ (by omega), other _ _ _ _ _ (by omega), other _ _ _ _ _ (by omega)]
  refine ⟨by simp only [size_set]; exact h.lt, fun p => by simp only [World.frozen?_setCell]; exact h.fz p, ?_, ?_, ?_, ?_, fun j hj => ?_, ?_, fun p hp => ?_⟩
  · rw [other _ _ _ _ _ (by omega), other _ _ _ _ _ (by omega), other _ _ _ _ _ (by omega)]
    exact World.cell?_setCell_same _ _ _ h.c0
  · rw [other _ _ _ _ _ (by omega), other _ _ _ _ _ (by omega)]
    exact World.cell?_setCell_same _ _ _ e1
  · rw [other _ _ _ _ _ (by omega)]
    exact World.cell?_setCell_same _ _ _ e2
  · exact World.cell?_setCell_same _ _ _ e3
  · rw [far _ (by omega)]; exact h.rd j hj
  · rw [far _ (by omega)]; exact h.ct
  · rw [far _ (by omega)]; exact h.fr p hp
theorem RO.cellR (h : RO W0 R o w a F tl) {k : Nat} (hk : k < 256) : w.cell? ⟨R, o + 4 + k, none⟩ = some (.int .i64 (F k)) ∧ w.frozen? ⟨R, o + 4 + k, none⟩ = false := ⟨h.rd k hk, h.fz _⟩
theorem RO.ext {H : Nat → Int} (h : RO W0 R o w a F tl) (e : ∀ k, k < 256 → H k = F k) : RO W0 R o w a H tl :=
  ⟨h.lt, h.fz, h.c0, h.c1, h.c2, h.c3, fun k hk => by rw [e k hk]; exact h.rd k hk, h.ct, h.fr⟩
theorem RO.cellT (h : RO W0 R o w a F tl) : w.cell? ⟨R, o + 260, none⟩ = some (.bool tl) ∧ w.frozen? ⟨R, o + 260, none⟩ = false := ⟨h.ct, h.fz _⟩
theorem RO.cellA (h : RO W0 R o w a F tl) : w.cell? ⟨R, o, none⟩ = some (.int .i64 a.tid) ∧ w.cell? ⟨R, o + 1, none⟩ = some (.int .i64 a.n) ∧ w.cell? ⟨R, o + 2, none⟩ = some (.bool a.no) ∧ w.cell? ⟨R, o + 3, none⟩ = some (.bool a.tl) ∧ ∀ i, w.frozen? ⟨R, i, none⟩ = false := ⟨h.c0, h.c1, h.c2, h.c3, h.fz⟩
end
end Co
end Go.Proofs.Ytekdcfdjohlfcaa
/- Layer 18's reference at an offset, over this seat's program (An). -/
namespace Go.Proofs.Ytekdcfdjohlfcaa
open Go.ChangeShapes Go.WideShapes Go.ChangeAt Go.RowKit
namespace Co
open Ck Ce
open Ba (KF Bd Nw)

set_option maxRecDepth 100000 in
set_option maxHeartbeats 800000 in
theorem rread_ok {w : World} {Wz : World} {R o : Nat} {a : Ac} {F : Nat → Int} {tl : Bool} (h : RO Wz R o w a F tl) (t : Nat) (ht : t < 256) (n : Int) (G : Nat → Int) :
    Calls Try.prog 70 #[.pointer (some ⟨R, o, none⟩), .int .i64 (t : Int), .int .i64 n, .agg (ra G)] w fun r w' => r = .returned (.int .i64 (rrR a (t : Int) G)) ∧ RO Wz R o w' a (upF (ff F (t : Int) G 256) t n) tl ∧ KF (fun k => k = R) w w' := by
  have HX := hide (h.below (Ba.below_alloc w (.cells (ra G) 39)))
  have hR := h.lt
  have hC : Hid ((w.alloc (.cells (ra G) 39)).heap[w.heap.size]? = some (.cells (ra G) 39 (0, 0))) := heap_new _ _
  have KN := hide (fun x u => rknown_any x (t : Int) G u)
  have rs := ra_size G
  clear h
  go_enter Try.func70, Try.ntmps70
  go_wp2_with fail
  go_loopw [9] (fun i wr => ∃ k : Nat, k ≤ 256 ∧ i = .int .i64 (k : Int) ∧ RO Wz R o wr a (ff F (t : Int) G k) tl ∧ KF (fun k => k = R) w wr ∧ wr.heap[w.heap.size]? = some (.cells (ra G) 39 (0, 0))) (fun i _ => 256 - (intOf i).toNat)
  case atStart => exact ⟨0, by decide, rfl, by rw [ff_zero]; exact HX.out, KF.of (Ba.below_alloc _ _), hC.out⟩
  case round =>
    clear HX hC
    obtain ⟨k, hk, rfl, rx, kf, hc⟩ := hrel
    have RXH := hide rx
    have KFH := hide kf
    have HC := hide hc
    have hsz := kf.size
    clear rx kf hc
    by_cases hlt : k < 256
    · have hlt' : (k : Int) < 256 := by omega
      obtain ⟨c0, f0⟩ := RXH.out.cellR hlt
      rw [ff_at] at c0
      have lc : (loadCellsFrom ⟨w.heap.size, 0, none⟩ 0 256 #[]).run Try.prog wr.drew = .ok (ra G) wr.drew := ld_ref (RA.of (show wr.drew.heap[w.heap.size]? = some (.cells (ra G) 39 (0, 0)) from HC.out))
      obtain ⟨LC, hLC⟩ : ∃ LC : Nat → Sem (Array Value), ∀ n, loadCellsFrom (⟨w.heap.size, 0, none⟩ : Addr) 0 n #[] = LC n := ⟨fun n => loadCellsFrom (⟨w.heap.size, 0, none⟩ : Addr) 0 n #[], fun _ => rfl⟩
      rw [hLC] at lc
      have LK : Hid (∀ u, Below wr.drew.heap.size wr.drew u → (LC 256).run Try.prog u = .ok (ra G) u) := by
        intro u b
        rw [← hLC]
        exact ld_ref (RA.of ((b.block w.heap.size (by show w.heap.size < wr.heap.size; exact heap_lt' HC.out)).trans HC.out))
      by_cases hp : 0 < F k
      · have hp' : decide (0 < F k) = true := by simpa using hp
        have K1 := hide (fun u => KN.out ⟨(k : Int), F k, false, false⟩ u)
        obtain ⟨kb, hkb⟩ : ∃ kb, rkn ⟨(k : Int), F k, false, false⟩ (t : Int) G = kb := ⟨_, rfl⟩
        rw [hkb] at K1
        have HKB := hide hkb
        have HP := hide hp
        unfold acV at K1
        clear hkb hp
        have RD : Hid (RO Wz R o wr.drew a (ff F (t : Int) G k) tl) := RXH.out.below (Ba.bdrew1 wr)
        cases kb
        · have E1 : Hid (ff F (t : Int) G (k + 1) = ff F (t : Int) G k) := ff_same (fun q => by rw [HKB.out] at q; exact absurd q.2 (by decide))
          generalize ra G = AG at *
          generalize F k = fk at *
          go_wp2_with fail
          go_region_held3 (fun w' => w'.cell? ⟨R, o + 4 + k, none⟩ = some (.int .i64 fk) ∧ (LC 256).run Try.prog w' = .ok AG w')
            (first | (go_keep; done) | (go_split_ands; refine ⟨cellB ?_ b1, LK.out _ b1⟩; assumption))
            ((go_at_call 82; refine (K1.out _).mono ?_; rintro r w1 ⟨rfl, b1⟩))
          have R1 := hide (RD.out.below b1)
          have K2 := hide ((KFH.out.then (Ba.bdrew1 wr)).then b1)
          have H2 := hide ((b1.block w.heap.size (heap_lt' HC.out)).trans HC.out)
          go_wp2_with fail
          go_roundw
          case rel => exact ⟨k + 1, by omega, by go_num, by rw [E1.out]; exact R1.out, K2.out, H2.out⟩
          case measure => simp [intOf]; omega
        · have E1 : Hid (upF (ff F (t : Int) G k) k 0 = ff F (t : Int) G (k + 1)) := ff_set HP.out HKB.out
          generalize ra G = AG at *
          generalize F k = fk at *
          go_wp2_with fail
          go_region_held3 (fun w' => w'.cell? ⟨R, o + 4 + k, none⟩ = some (.int .i64 fk) ∧ (LC 256).run Try.prog w' = .ok AG w')
            (first | (go_keep; done) | (go_split_ands; refine ⟨cellB ?_ b1, LK.out _ b1⟩; assumption))
            ((go_at_call 82; refine (K1.out _).mono ?_; rintro r w1 ⟨rfl, b1⟩))
          have R1 := RD.out.below b1
          obtain ⟨d0, d1⟩ := R1.cellR hlt
          have R2 := hide (R1.setRead hlt 0)
          have K2 := hide (((KFH.out.then (Ba.bdrew1 wr)).then b1).set (q := R) rfl (o + 4 + k) (.int .i64 0))
          have H2 : Hid ((w1.setCell ⟨R, o + 4 + k, none⟩ (.int .i64 0)).heap[w.heap.size]? = some (.cells AG 39 (0, 0))) := by
            rw [Below.heap_setCell _ _ _ _ (by show w.heap.size ≠ R; omega)]
            exact (b1.block w.heap.size (heap_lt' HC.out)).trans HC.out
          clear R1
          go_wp2_with fail
          go_roundw
          case rel => exact ⟨k + 1, by omega, by go_num, by rw [← E1.out]; exact R2.out, K2.out, H2.out⟩
          case measure => simp [intOf]; omega
      · have hp' : decide (0 < F k) = false := by simpa using hp
        have E1 : Hid (ff F (t : Int) G (k + 1) = ff F (t : Int) G k) := ff_same (fun q => hp q.1)
        clear hp
        generalize ra G = AG at *
        generalize F k = fk at *
        go_wp2_with fail
        go_quiet (fail)
        go_wp2_with fail
        go_roundw
        case rel => exact ⟨k + 1, by omega, by go_num, by rw [E1.out]; exact RXH.out.below (bdrew _ _), KFH.out.then (bdrew _ _), HC.out⟩
        case measure => simp [intOf]; omega
    · obtain rfl : k = 256 := by omega
      obtain ⟨c0, f0⟩ := RXH.out.cellR ht
      have RS := hide (RXH.out.setRead ht n)
      have KS := hide (KFH.out.set (q := R) rfl (o + 4 + t) (.int .i64 n))
      have HS : Hid ((wr.setCell ⟨R, o + 4 + t, none⟩ (.int .i64 n)).heap[w.heap.size]? = some (.cells (ra G) 39 (0, 0))) := by
        rw [Below.heap_setCell _ _ _ _ (by show w.heap.size ≠ R; omega)]
        exact HC.out
      have htl : (t : Int) < 256 := by omega
      have K1 := hide (fun u => KN.out a u)
      obtain ⟨kb, hkb⟩ : ∃ kb, rkn a (t : Int) G = kb := ⟨_, rfl⟩
      rw [hkb] at K1
      unfold acV at K1
      have HRR : Hid (rrR a (t : Int) G = if kb = true then 0 else 1) := by show rrR a (t : Int) G = _; unfold rrR; rw [hkb]
      clear hkb RXH KFH HC KN
      cases kb
      all_goals
        go_wp2_with fail
        generalize wr.setCell ⟨R, o + 4 + t, none⟩ (.int .i64 n) = W2 at *
        obtain ⟨z0, z1, z2, z3, -⟩ := RS.out.cellA
        have lc : (loadCellsFrom ⟨w.heap.size, 0, none⟩ 0 256 #[]).run Try.prog W2.drew = .ok (ra G) W2.drew := ld_ref (RA.of (show W2.drew.heap[w.heap.size]? = some (.cells (ra G) 39 (0, 0)) from HS.out))
        obtain ⟨LC, hLC⟩ : ∃ LC : Nat → Sem (Array Value), ∀ n, loadCellsFrom (⟨w.heap.size, 0, none⟩ : Addr) 0 n #[] = LC n := ⟨fun n => loadCellsFrom (⟨w.heap.size, 0, none⟩ : Addr) 0 n #[], fun _ => rfl⟩
        rw [hLC] at lc
        have LK : Hid (∀ u, Below W2.drew.heap.size W2.drew u → (LC 256).run Try.prog u = .ok (ra G) u) := by
          intro u b
          rw [← hLC]
          exact ld_ref (RA.of ((b.block w.heap.size (by show w.heap.size < W2.heap.size; exact heap_lt' HS.out)).trans HS.out))
        generalize ra G = AG at *
        clear c0 f0
        go_region_held3 (fun w' => w'.cell? ⟨R, o, none⟩ = some (.int .i64 a.tid) ∧ w'.cell? ⟨R, o + 1, none⟩ = some (.int .i64 a.n) ∧ w'.cell? ⟨R, o + 2, none⟩ = some (.bool a.no) ∧ w'.cell? ⟨R, o + 3, none⟩ = some (.bool a.tl) ∧ (LC 256).run Try.prog w' = .ok AG w')
          (first | (go_keep; done) | (go_split_ands; refine ⟨cellB ?_ b1, cellB ?_ b1, cellB ?_ b1, cellB ?_ b1, LK.out _ b1⟩ <;> assumption))
          ((go_at_call 82; refine (K1.out _).mono ?_; rintro r w1 ⟨rfl, b1⟩))
        have R1 := hide (RS.out.below (btr (Ba.bdrew1 W2) b1))
        have K2 := hide ((KS.out.then (Ba.bdrew1 W2)).then b1)
        go_wp2_with fail
        go_ret
        exact ⟨ret_int (by rw [HRR.out]; rfl), R1.out, K2.out⟩
end Co
end Go.Proofs.Ytekdcfdjohlfcaa
/- Layer 18's reference at an offset, over this seat's program (Ao). -/
namespace Go.Proofs.Ytekdcfdjohlfcaa
open Go.ChangeShapes Go.WideShapes Go.ChangeAt Go.RowKit
namespace Co
open Ck Ce
open Ba (KF Bd Nw)

set_option maxRecDepth 100000 in
set_option maxHeartbeats 1600000 in
theorem rput_ok {w : World} {Wz : World} {R o : Nat} {a : Ac} {F : Nat → Int} {tl : Bool} (h : RO Wz R o w a F tl) (t n : Int) (G : Nat → Int) :
    Calls Try.prog 69 #[.pointer (some ⟨R, o, none⟩), .int .i64 t, .int .i64 n, .agg (ra G)] w fun r w' => r = .returned (.int .i64 (rpR a F tl t G)) ∧ RO Wz R o w' ⟨t, n, false, false⟩ nf false ∧ KF (fun k => k = R) w w' := by
  have HX := hide (h.below (Ba.below_alloc w (.cells (ra G) 39)))
  have hR := h.lt
  obtain ⟨t0, -⟩ := HX.out.cellT
  have hC : Hid ((w.alloc (.cells (ra G) 39)).heap[w.heap.size]? = some (.cells (ra G) 39 (0, 0))) := heap_new _ _
  have KN := hide (fun x u => rknown_any x t G u)
  have rs := ra_size G
  have W0 : Hid (wi (tl || unk F t G 0) = if tl = true then 2 else 0) := by show wi (tl || unk F t G 0) = _; unfold wi unk; cases tl <;> simp
  clear h
  cases tl
  · simp only [Bool.false_eq_true, if_false] at W0
    go_enter Try.func69, Try.ntmps69
    go_wp2_with fail
    go_loopw [9, 10] (fun s i wr => ∃ k : Nat, k ≤ 256 ∧ i = .int .i64 (k : Int) ∧ (∃ wv, s = .int .i64 wv ∧ Hid (wv = wi (false || unk F t G k))) ∧ RO Wz R o wr a (pk F k) false ∧ KF (fun k => k = R) w wr ∧ wr.heap[w.heap.size]? = some (.cells (ra G) 39 (0, 0))) (fun _ i _ => 256 - (intOf i).toNat)
    case atStart => exact ⟨0, by decide, rfl, ⟨_, rfl, W0.out.symm⟩, by rw [pk_zero]; exact HX.out, KF.of (Ba.below_alloc _ _), hC.out⟩
    case round =>
      clear HX hC W0
      obtain ⟨k, hk, rfl, ⟨wv, rfl, hwv⟩, rx, kf, hc⟩ := hrel
      have RXH := hide rx
      have KFH := hide kf
      have HC := hide hc
      have hsz := kf.size
      clear rx kf hc
      by_cases hlt : k < 256
      · have hlt' : (k : Int) < 256 := by omega
        obtain ⟨c0, f0⟩ := RXH.out.cellR hlt
        rw [pk_at] at c0
        have lc : (loadCellsFrom ⟨w.heap.size, 0, none⟩ 0 256 #[]).run Try.prog wr.drew = .ok (ra G) wr.drew := ld_ref (RA.of (show wr.drew.heap[w.heap.size]? = some (.cells (ra G) 39 (0, 0)) from HC.out))
        obtain ⟨LC, hLC⟩ : ∃ LC : Nat → Sem (Array Value), ∀ n, loadCellsFrom (⟨w.heap.size, 0, none⟩ : Addr) 0 n #[] = LC n := ⟨fun n => loadCellsFrom (⟨w.heap.size, 0, none⟩ : Addr) 0 n #[], fun _ => rfl⟩
        rw [hLC] at lc
        have LK : Hid (∀ u, Below wr.drew.heap.size wr.drew u → (LC 256).run Try.prog u = .ok (ra G) u) := by
          intro u b
          rw [← hLC]
          exact ld_ref (RA.of ((b.block w.heap.size (by show w.heap.size < wr.heap.size; exact heap_lt' HC.out)).trans HC.out))
        have RD : Hid (RO Wz R o wr.drew a (pk F k) false) := RXH.out.below (Ba.bdrew1 wr)
        have US := hide (unk_succ F t G k)
        have PS := hide (pk_set F k)
        by_cases hp : 0 < F k
        · have hp' : decide (0 < F k) = true := by simpa using hp
          have K1 := hide (fun u => KN.out ⟨(k : Int), F k, false, false⟩ u)
          obtain ⟨kb, hkb⟩ : ∃ kb, rkn ⟨(k : Int), F k, false, false⟩ t G = kb := ⟨_, rfl⟩
          rw [hkb] at K1 US
          rw [hp'] at US
          unfold acV at K1
          clear hkb hp
          cases kb
          · have NW := hide (show (2 : Int) = wi (false || unk F t G (k + 1)) from by rw [US.out]; simp [wi])
            generalize ra G = AG at *
            generalize F k = fk at *
            go_wp2_with fail
            go_region_held3 (fun w' => w'.cell? ⟨R, o + 4 + k, none⟩ = some (.int .i64 fk) ∧ (LC 256).run Try.prog w' = .ok AG w')
              (first | (go_keep; done) | (go_split_ands; refine ⟨cellB ?_ b1, LK.out _ b1⟩; assumption))
              ((go_at_call 82; refine (K1.out _).mono ?_; rintro r w1 ⟨rfl, b1⟩))
            have R1 := RD.out.below b1
            obtain ⟨d0, d1⟩ := R1.cellR hlt
            have R2 := hide (R1.setRead hlt 0)
            have K2 := hide (((KFH.out.then (Ba.bdrew1 wr)).then b1).set (q := R) rfl (o + 4 + k) (.int .i64 0))
            have H2 : Hid ((w1.setCell ⟨R, o + 4 + k, none⟩ (.int .i64 0)).heap[w.heap.size]? = some (.cells AG 39 (0, 0))) := by
              rw [Below.heap_setCell _ _ _ _ (by show w.heap.size ≠ R; omega)]
              exact (b1.block w.heap.size (heap_lt' HC.out)).trans HC.out
            clear R1
            go_wp2_with fail
            go_roundw
            case rel => exact ⟨k + 1, by omega, by go_num, ⟨2, rfl, NW.out⟩, by rw [← PS.out]; exact R2.out, K2.out, H2.out⟩
            case measure => simp [intOf]; omega
          · have NW := hide (show wv = wi (false || unk F t G (k + 1)) from by rw [US.out, hwv.out]; simp)
            generalize ra G = AG at *
            generalize F k = fk at *
            go_wp2_with fail
            go_region_held3 (fun w' => w'.cell? ⟨R, o + 4 + k, none⟩ = some (.int .i64 fk) ∧ (LC 256).run Try.prog w' = .ok AG w')
              (first | (go_keep; done) | (go_split_ands; refine ⟨cellB ?_ b1, LK.out _ b1⟩; assumption))
              ((go_at_call 82; refine (K1.out _).mono ?_; rintro r w1 ⟨rfl, b1⟩))
            have R1 := RD.out.below b1
            obtain ⟨d0, d1⟩ := R1.cellR hlt
            have R2 := hide (R1.setRead hlt 0)
            have K2 := hide (((KFH.out.then (Ba.bdrew1 wr)).then b1).set (q := R) rfl (o + 4 + k) (.int .i64 0))
            have H2 : Hid ((w1.setCell ⟨R, o + 4 + k, none⟩ (.int .i64 0)).heap[w.heap.size]? = some (.cells AG 39 (0, 0))) := by
              rw [Below.heap_setCell _ _ _ _ (by show w.heap.size ≠ R; omega)]
              exact (b1.block w.heap.size (heap_lt' HC.out)).trans HC.out
            clear R1
            go_wp2_with fail
            go_roundw
            case rel => exact ⟨k + 1, by omega, by go_num, ⟨wv, rfl, NW.out⟩, by rw [← PS.out]; exact R2.out, K2.out, H2.out⟩
            case measure => simp [intOf]; omega
        · have hp' : decide (0 < F k) = false := by simpa using hp
          have NW := hide (show wv = wi (false || unk F t G (k + 1)) from by rw [US.out, hwv.out, hp']; simp)
          have R2 := hide (fun q => (RXH.out.below (bdrew wr q)).setRead hlt 0)
          have K2 := hide (fun q => (KFH.out.then (bdrew wr q)).set (q := R) rfl (o + 4 + k) (.int .i64 0))
          have H2 : Hid (∀ q, ((wr.drewN q).setCell ⟨R, o + 4 + k, none⟩ (.int .i64 0)).heap[w.heap.size]? = some (.cells (ra G) 39 (0, 0))) := by
            intro q
            rw [Below.heap_setCell _ _ _ _ (by show w.heap.size ≠ R; omega)]
            exact HC.out
          clear hp
          generalize ra G = AG at *
          generalize F k = fk at *
          go_wp2_with fail
          go_quiet (fail)
          go_wp2_with fail
          go_roundw
          case rel => exact ⟨k + 1, by omega, by go_num, ⟨wv, rfl, NW.out⟩, by rw [← PS.out]; exact R2.out _, K2.out _, H2.out _⟩
          case measure => simp [intOf]; omega
      · obtain rfl : k = 256 := by omega
        have K1 := hide (fun u => KN.out a u)
        obtain ⟨kb, hkb⟩ : ∃ kb, rkn a t G = kb := ⟨_, rfl⟩
        rw [hkb] at K1
        unfold acV at K1
        have HRR : Hid (rpR a F false t G = bif kb then wv else 1) := by
          show rpR a F false t G = _
          unfold rpR
          rw [hkb, ← hwv.out]
        obtain ⟨z0, z1, z2, z3, -⟩ := RXH.out.cellA
        have lc : (loadCellsFrom ⟨w.heap.size, 0, none⟩ 0 256 #[]).run Try.prog wr.drew = .ok (ra G) wr.drew := ld_ref (RA.of (show wr.drew.heap[w.heap.size]? = some (.cells (ra G) 39 (0, 0)) from HC.out))
        obtain ⟨LC, hLC⟩ : ∃ LC : Nat → Sem (Array Value), ∀ n, loadCellsFrom (⟨w.heap.size, 0, none⟩ : Addr) 0 n #[] = LC n := ⟨fun n => loadCellsFrom (⟨w.heap.size, 0, none⟩ : Addr) 0 n #[], fun _ => rfl⟩
        rw [hLC] at lc
        have LK : Hid (∀ u, Below wr.drew.heap.size wr.drew u → (LC 256).run Try.prog u = .ok (ra G) u) := by
          intro u b
          rw [← hLC]
          exact ld_ref (RA.of ((b.block w.heap.size (by show w.heap.size < wr.heap.size; exact heap_lt' HC.out)).trans HC.out))
        clear hkb KN hwv
        generalize ra G = AG at *
        cases kb
        all_goals
          go_wp2_with fail
          go_region_held3 (fun w' => w'.cell? ⟨R, o, none⟩ = some (.int .i64 a.tid) ∧ w'.cell? ⟨R, o + 1, none⟩ = some (.int .i64 a.n) ∧ w'.cell? ⟨R, o + 2, none⟩ = some (.bool a.no) ∧ w'.cell? ⟨R, o + 3, none⟩ = some (.bool a.tl) ∧ (LC 256).run Try.prog w' = .ok AG w')
            (first | (go_keep; done) | (go_split_ands; refine ⟨cellB ?_ b1, cellB ?_ b1, cellB ?_ b1, cellB ?_ b1, LK.out _ b1⟩ <;> assumption))
            ((go_at_call 82; refine (K1.out _).mono ?_; rintro r w1 ⟨rfl, b1⟩))
          have R1 := RXH.out.below (btr (Ba.bdrew1 wr) b1)
          have K2 := (KFH.out.then (Ba.bdrew1 wr)).then b1
          obtain ⟨e0, e1⟩ := R1.cellT
          have R2 := R1.setTl false
          have K3 := K2.set (q := R) rfl (o + 260) (.bool false)
          obtain ⟨x0, x1, x2, x3, xf⟩ := R2.cellA
          have xf0 := xf o
          have xf1 := xf (o + 1)
          have xf2 := xf (o + 2)
          have xf3 := xf (o + 3)
          have R3 := hide ((R2.setAc t n false false).ext (H := nf) (fun k hk => by simp [nf, pk, hk]))
          have K4 := hide ((((K3.set (q := R) rfl o (.int .i64 t)).set (q := R) rfl (o + 1) (.int .i64 n)).set (q := R) rfl (o + 2) (.bool false)).set (q := R) rfl (o + 3) (.bool false))
          clear R1 R2 K2 K3 xf
          go_wp2_with fail
          go_ret
          exact ⟨ret_int (by rw [HRR.out]; rfl), R3.out, K4.out⟩
  · simp only [if_true] at W0
    go_enter Try.func69, Try.ntmps69
    go_wp2_with fail
    go_loopw [9, 10] (fun s i wr => ∃ k : Nat, k ≤ 256 ∧ i = .int .i64 (k : Int) ∧ (∃ wv, s = .int .i64 wv ∧ Hid (wv = wi (true || unk F t G k))) ∧ RO Wz R o wr a (pk F k) true ∧ KF (fun k => k = R) w wr ∧ wr.heap[w.heap.size]? = some (.cells (ra G) 39 (0, 0))) (fun _ i _ => 256 - (intOf i).toNat)
    case atStart => exact ⟨0, by decide, rfl, ⟨_, rfl, W0.out.symm⟩, by rw [pk_zero]; exact HX.out, KF.of (Ba.below_alloc _ _), hC.out⟩
    case round =>
      clear HX hC W0
      obtain ⟨k, hk, rfl, ⟨wv, rfl, hwv⟩, rx, kf, hc⟩ := hrel
      have RXH := hide rx
      have KFH := hide kf
      have HC := hide hc
      have hsz := kf.size
      clear rx kf hc
      by_cases hlt : k < 256
      · have hlt' : (k : Int) < 256 := by omega
        obtain ⟨c0, f0⟩ := RXH.out.cellR hlt
        rw [pk_at] at c0
        have lc : (loadCellsFrom ⟨w.heap.size, 0, none⟩ 0 256 #[]).run Try.prog wr.drew = .ok (ra G) wr.drew := ld_ref (RA.of (show wr.drew.heap[w.heap.size]? = some (.cells (ra G) 39 (0, 0)) from HC.out))
        obtain ⟨LC, hLC⟩ : ∃ LC : Nat → Sem (Array Value), ∀ n, loadCellsFrom (⟨w.heap.size, 0, none⟩ : Addr) 0 n #[] = LC n := ⟨fun n => loadCellsFrom (⟨w.heap.size, 0, none⟩ : Addr) 0 n #[], fun _ => rfl⟩
        rw [hLC] at lc
        have LK : Hid (∀ u, Below wr.drew.heap.size wr.drew u → (LC 256).run Try.prog u = .ok (ra G) u) := by
          intro u b
          rw [← hLC]
          exact ld_ref (RA.of ((b.block w.heap.size (by show w.heap.size < wr.heap.size; exact heap_lt' HC.out)).trans HC.out))
        have RD : Hid (RO Wz R o wr.drew a (pk F k) true) := RXH.out.below (Ba.bdrew1 wr)
        have US := hide (unk_succ F t G k)
        have PS := hide (pk_set F k)
        by_cases hp : 0 < F k
        · have hp' : decide (0 < F k) = true := by simpa using hp
          have K1 := hide (fun u => KN.out ⟨(k : Int), F k, false, false⟩ u)
          obtain ⟨kb, hkb⟩ : ∃ kb, rkn ⟨(k : Int), F k, false, false⟩ t G = kb := ⟨_, rfl⟩
          rw [hkb] at K1 US
          rw [hp'] at US
          unfold acV at K1
          clear hkb hp
          cases kb
          · have NW := hide (show (2 : Int) = wi (true || unk F t G (k + 1)) from by rw [US.out]; simp [wi])
            generalize ra G = AG at *
            generalize F k = fk at *
            go_wp2_with fail
            go_region_held3 (fun w' => w'.cell? ⟨R, o + 4 + k, none⟩ = some (.int .i64 fk) ∧ (LC 256).run Try.prog w' = .ok AG w')
              (first | (go_keep; done) | (go_split_ands; refine ⟨cellB ?_ b1, LK.out _ b1⟩; assumption))
              ((go_at_call 82; refine (K1.out _).mono ?_; rintro r w1 ⟨rfl, b1⟩))
            have R1 := RD.out.below b1
            obtain ⟨d0, d1⟩ := R1.cellR hlt
            have R2 := hide (R1.setRead hlt 0)
            have K2 := hide (((KFH.out.then (Ba.bdrew1 wr)).then b1).set (q := R) rfl (o + 4 + k) (.int .i64 0))
            have H2 : Hid ((w1.setCell ⟨R, o + 4 + k, none⟩ (.int .i64 0)).heap[w.heap.size]? = some (.cells AG 39 (0, 0))) := by
              rw [Below.heap_setCell _ _ _ _ (by show w.heap.size ≠ R; omega)]
              exact (b1.block w.heap.size (heap_lt' HC.out)).trans HC.out
            clear R1
            go_wp2_with fail
            go_roundw
            case rel => exact ⟨k + 1, by omega, by go_num, ⟨2, rfl, NW.out⟩, by rw [← PS.out]; exact R2.out, K2.out, H2.out⟩
            case measure => simp [intOf]; omega
          · have NW := hide (show wv = wi (true || unk F t G (k + 1)) from by rw [US.out, hwv.out]; simp)
            generalize ra G = AG at *
            generalize F k = fk at *
            go_wp2_with fail
            go_region_held3 (fun w' => w'.cell? ⟨R, o + 4 + k, none⟩ = some (.int .i64 fk) ∧ (LC 256).run Try.prog w' = .ok AG w')
              (first | (go_keep; done) | (go_split_ands; refine ⟨cellB ?_ b1, LK.out _ b1⟩; assumption))
              ((go_at_call 82; refine (K1.out _).mono ?_; rintro r w1 ⟨rfl, b1⟩))
            have R1 := RD.out.below b1
            obtain ⟨d0, d1⟩ := R1.cellR hlt
            have R2 := hide (R1.setRead hlt 0)
            have K2 := hide (((KFH.out.then (Ba.bdrew1 wr)).then b1).set (q := R) rfl (o + 4 + k) (.int .i64 0))
            have H2 : Hid ((w1.setCell ⟨R, o + 4 + k, none⟩ (.int .i64 0)).heap[w.heap.size]? = some (.cells AG 39 (0, 0))) := by
              rw [Below.heap_setCell _ _ _ _ (by show w.heap.size ≠ R; omega)]
              exact (b1.block w.heap.size (heap_lt' HC.out)).trans HC.out
            clear R1
            go_wp2_with fail
            go_roundw
            case rel => exact ⟨k + 1, by omega, by go_num, ⟨wv, rfl, NW.out⟩, by rw [← PS.out]; exact R2.out, K2.out, H2.out⟩
            case measure => simp [intOf]; omega
        · have hp' : decide (0 < F k) = false := by simpa using hp
          have NW := hide (show wv = wi (true || unk F t G (k + 1)) from by rw [US.out, hwv.out, hp']; simp)
          have R2 := hide (fun q => (RXH.out.below (bdrew wr q)).setRead hlt 0)
          have K2 := hide (fun q => (KFH.out.then (bdrew wr q)).set (q := R) rfl (o + 4 + k) (.int .i64 0))
          have H2 : Hid (∀ q, ((wr.drewN q).setCell ⟨R, o + 4 + k, none⟩ (.int .i64 0)).heap[w.heap.size]? = some (.cells (ra G) 39 (0, 0))) := by
            intro q
            rw [Below.heap_setCell _ _ _ _ (by show w.heap.size ≠ R; omega)]
            exact HC.out
          clear hp
          generalize ra G = AG at *
          generalize F k = fk at *
          go_wp2_with fail
          go_quiet (fail)
          go_wp2_with fail
          go_roundw
          case rel => exact ⟨k + 1, by omega, by go_num, ⟨wv, rfl, NW.out⟩, by rw [← PS.out]; exact R2.out _, K2.out _, H2.out _⟩
          case measure => simp [intOf]; omega
      · obtain rfl : k = 256 := by omega
        have K1 := hide (fun u => KN.out a u)
        obtain ⟨kb, hkb⟩ : ∃ kb, rkn a t G = kb := ⟨_, rfl⟩
        rw [hkb] at K1
        unfold acV at K1
        have HRR : Hid (rpR a F true t G = bif kb then wv else 1) := by
          show rpR a F true t G = _
          unfold rpR
          rw [hkb, ← hwv.out]
        obtain ⟨z0, z1, z2, z3, -⟩ := RXH.out.cellA
        have lc : (loadCellsFrom ⟨w.heap.size, 0, none⟩ 0 256 #[]).run Try.prog wr.drew = .ok (ra G) wr.drew := ld_ref (RA.of (show wr.drew.heap[w.heap.size]? = some (.cells (ra G) 39 (0, 0)) from HC.out))
        obtain ⟨LC, hLC⟩ : ∃ LC : Nat → Sem (Array Value), ∀ n, loadCellsFrom (⟨w.heap.size, 0, none⟩ : Addr) 0 n #[] = LC n := ⟨fun n => loadCellsFrom (⟨w.heap.size, 0, none⟩ : Addr) 0 n #[], fun _ => rfl⟩
        rw [hLC] at lc
        have LK : Hid (∀ u, Below wr.drew.heap.size wr.drew u → (LC 256).run Try.prog u = .ok (ra G) u) := by
          intro u b
          rw [← hLC]
          exact ld_ref (RA.of ((b.block w.heap.size (by show w.heap.size < wr.heap.size; exact heap_lt' HC.out)).trans HC.out))
        clear hkb KN hwv
        generalize ra G = AG at *
        cases kb
        all_goals
          go_wp2_with fail
          go_region_held3 (fun w' => w'.cell? ⟨R, o, none⟩ = some (.int .i64 a.tid) ∧ w'.cell? ⟨R, o + 1, none⟩ = some (.int .i64 a.n) ∧ w'.cell? ⟨R, o + 2, none⟩ = some (.bool a.no) ∧ w'.cell? ⟨R, o + 3, none⟩ = some (.bool a.tl) ∧ (LC 256).run Try.prog w' = .ok AG w')
            (first | (go_keep; done) | (go_split_ands; refine ⟨cellB ?_ b1, cellB ?_ b1, cellB ?_ b1, cellB ?_ b1, LK.out _ b1⟩ <;> assumption))
            ((go_at_call 82; refine (K1.out _).mono ?_; rintro r w1 ⟨rfl, b1⟩))
          have R1 := RXH.out.below (btr (Ba.bdrew1 wr) b1)
          have K2 := (KFH.out.then (Ba.bdrew1 wr)).then b1
          obtain ⟨e0, e1⟩ := R1.cellT
          have R2 := R1.setTl false
          have K3 := K2.set (q := R) rfl (o + 260) (.bool false)
          obtain ⟨x0, x1, x2, x3, xf⟩ := R2.cellA
          have xf0 := xf o
          have xf1 := xf (o + 1)
          have xf2 := xf (o + 2)
          have xf3 := xf (o + 3)
          have R3 := hide ((R2.setAc t n false false).ext (H := nf) (fun k hk => by simp [nf, pk, hk]))
          have K4 := hide ((((K3.set (q := R) rfl o (.int .i64 t)).set (q := R) rfl (o + 1) (.int .i64 n)).set (q := R) rfl (o + 2) (.bool false)).set (q := R) rfl (o + 3) (.bool false))
          clear R1 R2 K2 K3 xf
          go_wp2_with fail
          go_ret
          exact ⟨ret_int (by rw [HRR.out]; rfl), R3.out, K4.out⟩
end Co
end Go.Proofs.Ytekdcfdjohlfcaa
/- Layer 18's reference at an offset, over this seat's program (Ap). -/
namespace Go.Proofs.Ytekdcfdjohlfcaa
open Go.ChangeShapes Go.WideShapes Go.ChangeAt Go.RowKit
namespace Co
open Ck Ce
open Ba (KF Bd Nw)

set_option maxRecDepth 100000 in
set_option maxHeartbeats 800000 in
/-- the reads, from whatever world the last write is right in -/
theorem rret_ok {w : World} {Wz : World} {R o : Nat} {a : Ac} {F : Nat → Int} {tl : Bool} (h : RO Wz R o w a F tl) (t : Nat) (ht : t < 256) (cut : Int) (h2 : 0 ≤ cut) (h3 : cut ≤ 1048576) :
    Calls Try.prog 68 #[.pointer (some ⟨R, o, none⟩), .int .i64 (t : Int), .int .i64 cut] w fun r w' => r = .returned (.int .i64 0) ∧ RO Wz R o w' (rtA a (t : Int) cut) (upF F t 0) (tl || decide (cut < F t)) ∧ KF (fun k => k = R) w w' := by
  obtain ⟨z0, z1, z2, z3, zf⟩ := h.cellA
  have zf0 := zf o
  have zf1 := zf (o + 1)
  have zf2 := zf (o + 2)
  have zf3 := zf (o + 3)
  have HX := hide h
  clear h zf
  have ht' : (t : Int) < 256 := by omega
  obtain ⟨at_, an, ano, atl⟩ := a
  have z0 : w.cell? ⟨R, o, none⟩ = some (.int .i64 at_) := z0
  have z1 : w.cell? ⟨R, o + 1, none⟩ = some (.int .i64 an) := z1
  have z2 : w.cell? ⟨R, o + 2, none⟩ = some (.bool ano) := z2
  have z3 : w.cell? ⟨R, o + 3, none⟩ = some (.bool atl) := z3
  have REST : Hid (∀ W a', RO Wz R o W a' F tl → KF (fun k => k = R) w W → W.cell? ⟨R, o + 4 + t, none⟩ = some (.int .i64 (F t)) ∧ W.frozen? ⟨R, o + 4 + t, none⟩ = false ∧ W.cell? ⟨R, o + 260, none⟩ = some (.bool tl) ∧ W.frozen? ⟨R, o + 260, none⟩ = false ∧
      (RO Wz R o (W.setCell ⟨R, o + 4 + t, none⟩ (.int .i64 0)) a' (upF F t 0) tl ∧ KF (fun k => k = R) w (W.setCell ⟨R, o + 4 + t, none⟩ (.int .i64 0))) ∧
      ((W.setCell ⟨R, o + 260, none⟩ (.bool true)).cell? ⟨R, o + 4 + t, none⟩ = some (.int .i64 (F t)) ∧ (W.setCell ⟨R, o + 260, none⟩ (.bool true)).frozen? ⟨R, o + 4 + t, none⟩ = false ∧ RO Wz R o ((W.setCell ⟨R, o + 260, none⟩ (.bool true)).setCell ⟨R, o + 4 + t, none⟩ (.int .i64 0)) a' (upF F t 0) true ∧ KF (fun k => k = R) w ((W.setCell ⟨R, o + 260, none⟩ (.bool true)).setCell ⟨R, o + 4 + t, none⟩ (.int .i64 0)))) := by
    intro W a' hX hK
    have T := hX.setTl true
    exact ⟨(hX.cellR ht).1, (hX.cellR ht).2, hX.cellT.1, hX.cellT.2, ⟨hX.setRead ht 0, hK.set (q := R) rfl _ _⟩, (T.cellR ht).1, (T.cellR ht).2, T.setRead ht 0, (hK.set (q := R) rfl (o + 260) (.bool true)).set (q := R) rfl _ _⟩
  have A1 := hide (HX.out.setAc 0 0 true false)
  have A2 := hide (HX.out.setAc 0 0 false true)
  have B1 := hide (fun x y => ((((KF.refl (fun k => k = R) w).set (q := R) rfl o (.int .i64 0)).set (q := R) rfl (o + 1) (.int .i64 0)).set (q := R) rfl (o + 2) (.bool x)).set (q := R) rfl (o + 3) (.bool y))
  obtain ⟨gb, hgb⟩ : ∃ gb, (!ano && !atl && (at_ == (t : Int))) = gb := ⟨_, rfl⟩
  cases gb
  · have RA1 : Hid (rtA ⟨at_, an, ano, atl⟩ (t : Int) cut = ⟨at_, an, ano, atl⟩) := by show rtA _ _ _ = _; unfold rtA; rw [hgb]; rfl
    rw [RA1.out]
    obtain ⟨y0, y1, -, -, ⟨p1, p2⟩, y4, y5, p3, p4⟩ := REST.out w _ HX.out (KF.refl _ _)
    obtain ⟨y2, y3⟩ := HX.out.cellT
    have P1 := hide p1
    have P2 := hide p2
    have P3 := hide p3
    have P4 := hide p4
    clear p1 p2 p3 p4 REST A1 A2 B1 HX RA1
    by_cases hf : cut < F t
    · have E : Hid ((tl || decide (cut < F t)) = true) := by show _ = true; simp [hf]
      rw [E.out]
      have hf' : decide (cut < F t) = true := by simpa using hf
      cases ano <;> cases atl
      case false.false =>
        have hq : (at_ == (t : Int)) = false := by simpa using hgb
        clear hgb
        go_enter Try.func68, Try.ntmps68
        go_wp2_with fail
        go_ret
        exact ⟨rfl, P3.out, P4.out⟩
      all_goals
        clear hgb
        go_enter Try.func68, Try.ntmps68
        go_wp2_with fail
        go_ret
        exact ⟨rfl, P3.out, P4.out⟩
    · have E : Hid ((tl || decide (cut < F t)) = tl) := by show _ = tl; simp [hf]
      rw [E.out]
      have hf' : decide (cut < F t) = false := by simpa using hf
      cases ano <;> cases atl
      case false.false =>
        have hq : (at_ == (t : Int)) = false := by simpa using hgb
        clear hgb
        go_enter Try.func68, Try.ntmps68
        go_wp2_with fail
        go_ret
        exact ⟨rfl, P1.out, P2.out⟩
      all_goals
        clear hgb
        go_enter Try.func68, Try.ntmps68
        go_wp2_with fail
        go_ret
        exact ⟨rfl, P1.out, P2.out⟩
  · obtain ⟨⟨e1, e2⟩, e3⟩ : (ano = false ∧ atl = false) ∧ (at_ == (t : Int)) = true := by simpa using hgb
    subst e1 e2
    clear hgb
    by_cases hn : an ≤ cut
    · have hn' : decide (an ≤ cut) = true := by simpa using hn
      have RA1 : Hid (rtA ⟨at_, an, false, false⟩ (t : Int) cut = ⟨0, 0, true, false⟩) := by show rtA _ _ _ = _; unfold rtA; simp only [e3, hn']; rfl
      rw [RA1.out]
      have BB := hide (B1.out true false)
      have AA := hide A1.out
      clear A1 A2 B1 HX RA1
      by_cases hf : cut < F t
      · have E : Hid ((tl || decide (cut < F t)) = true) := by show _ = true; simp [hf]
        rw [E.out]
        have hf' : decide (cut < F t) = true := by simpa using hf
        go_enter Try.func68, Try.ntmps68
        go_upto_region 7 with fail
        generalize (((w.setCell ⟨R, o, none⟩ (.int .i64 0)).setCell ⟨R, o + 1, none⟩ (.int .i64 0)).setCell ⟨R, o + 2, none⟩ (.bool true)).setCell ⟨R, o + 3, none⟩ (.bool false) = W at *
        obtain ⟨y0, y1, y2, y3, ⟨p1, p2⟩, y4, y5, p3, p4⟩ := REST.out W _ AA.out BB.out
        have P1 := hide p1
        have P2 := hide p2
        have P3 := hide p3
        have P4 := hide p4
        clear p1 p2 p3 p4 REST AA BB z0 z1 z2 z3 zf0 zf1 zf2 zf3
        go_wp2_with fail
        go_ret
        exact ⟨rfl, P3.out, P4.out⟩
      · have E : Hid ((tl || decide (cut < F t)) = tl) := by show _ = tl; simp [hf]
        rw [E.out]
        have hf' : decide (cut < F t) = false := by simpa using hf
        go_enter Try.func68, Try.ntmps68
        go_upto_region 7 with fail
        generalize (((w.setCell ⟨R, o, none⟩ (.int .i64 0)).setCell ⟨R, o + 1, none⟩ (.int .i64 0)).setCell ⟨R, o + 2, none⟩ (.bool true)).setCell ⟨R, o + 3, none⟩ (.bool false) = W at *
        obtain ⟨y0, y1, y2, y3, ⟨p1, p2⟩, y4, y5, p3, p4⟩ := REST.out W _ AA.out BB.out
        have P1 := hide p1
        have P2 := hide p2
        have P3 := hide p3
        have P4 := hide p4
        clear p1 p2 p3 p4 REST AA BB z0 z1 z2 z3 zf0 zf1 zf2 zf3
        go_wp2_with fail
        go_ret
        exact ⟨rfl, P1.out, P2.out⟩
    · have hn' : decide (an ≤ cut) = false := by simpa using hn
      have RA1 : Hid (rtA ⟨at_, an, false, false⟩ (t : Int) cut = ⟨0, 0, false, true⟩) := by show rtA _ _ _ = _; unfold rtA; simp only [e3, hn']; rfl
      rw [RA1.out]
      have BB := hide (B1.out false true)
      have AA := hide A2.out
      clear A1 A2 B1 HX RA1
      by_cases hf : cut < F t
      · have E : Hid ((tl || decide (cut < F t)) = true) := by show _ = true; simp [hf]
        rw [E.out]
        have hf' : decide (cut < F t) = true := by simpa using hf
        go_enter Try.func68, Try.ntmps68
        go_upto_region 7 with fail
        generalize (((w.setCell ⟨R, o, none⟩ (.int .i64 0)).setCell ⟨R, o + 1, none⟩ (.int .i64 0)).setCell ⟨R, o + 2, none⟩ (.bool false)).setCell ⟨R, o + 3, none⟩ (.bool true) = W at *
        obtain ⟨y0, y1, y2, y3, ⟨p1, p2⟩, y4, y5, p3, p4⟩ := REST.out W _ AA.out BB.out
        have P1 := hide p1
        have P2 := hide p2
        have P3 := hide p3
        have P4 := hide p4
        clear p1 p2 p3 p4 REST AA BB z0 z1 z2 z3 zf0 zf1 zf2 zf3
        go_wp2_with fail
        go_ret
        exact ⟨rfl, P3.out, P4.out⟩
      · have E : Hid ((tl || decide (cut < F t)) = tl) := by show _ = tl; simp [hf]
        rw [E.out]
        have hf' : decide (cut < F t) = false := by simpa using hf
        go_enter Try.func68, Try.ntmps68
        go_upto_region 7 with fail
        generalize (((w.setCell ⟨R, o, none⟩ (.int .i64 0)).setCell ⟨R, o + 1, none⟩ (.int .i64 0)).setCell ⟨R, o + 2, none⟩ (.bool false)).setCell ⟨R, o + 3, none⟩ (.bool true) = W at *
        obtain ⟨y0, y1, y2, y3, ⟨p1, p2⟩, y4, y5, p3, p4⟩ := REST.out W _ AA.out BB.out
        have P1 := hide p1
        have P2 := hide p2
        have P3 := hide p3
        have P4 := hide p4
        clear p1 p2 p3 p4 REST AA BB z0 z1 z2 z3 zf0 zf1 zf2 zf3
        go_wp2_with fail
        go_ret
        exact ⟨rfl, P1.out, P2.out⟩
end Co
end Go.Proofs.Ytekdcfdjohlfcaa
/- Package cell, over this seat's program: Read. -/
namespace Go.Proofs.Ytekdcfdjohlfcaa
open Go.ChangeShapes Go.WideShapes Go.ChangeAt Go.RowKit
namespace Ce
open Ck
open Ba (KF Bd Nw hide)
open Ep (tidOf clkOf ownB)

/-- what the rest is -/
def kept (own : Int) (l : List Int) (rd : List Int) : List Int := rd.filter fun x => !kn own l x
/-- a read -/
def rdS (st : Cst) (e : Int) (l : List Int) : Cst := { st with rd := insL (kept (tidOf e) l st.rd) (pos (kept (tidOf e) l st.rd) (tidOf e)) e }
def rdR (st : Cst) (e : Int) (l : List Int) : Int := if kn (tidOf e) l st.last = true then 0 else 1
theorem nth_mem {l : List Int} {k : Nat} (h : k < l.length) : nth l k ∈ l := by rw [nth_lt l k h]; exact List.getElem_mem h
theorem mem_nth {l : List Int} {x : Int} (h : x ∈ l) : ∃ k, k < l.length ∧ nth l k = x := by
  obtain ⟨k, hk, rfl⟩ := List.getElem_of_mem h
  exact ⟨k, hk, nth_lt l k hk⟩
theorem srt_pw {l : List Int} : Srt l ↔ l.Pairwise (fun a b => tidOf a < tidOf b) := by
  rw [List.pairwise_iff_getElem]
  constructor
  · intro h i j hi hj hij
    have := h i j hij hj
    rwa [nth_lt l i hi, nth_lt l j hj] at this
  · intro h i j hij hj
    rw [nth_lt l i (by omega), nth_lt l j hj]
    exact h i j (by omega) hj hij
theorem srt_filter {l : List Int} (h : Srt l) (p : Int → Bool) : Srt (l.filter p) := srt_pw.2 ((srt_pw.1 h).filter p)
theorem srt_nil : Srt [] := fun _ _ _ h => absurd h (Nat.not_lt_zero _)
theorem pos_le (l : List Int) (t : Int) : pos l t ≤ l.length := (List.takeWhile_prefix _).length_le
/-- ahead of the place all are less -/
theorem pos_lt {l : List Int} {t : Int} {k : Nat} (h : k < pos l t) : tidOf (nth l k) < t := by
  have hk : k < (l.takeWhile fun e => decide (tidOf e < t)).length := h
  have hm : decide (tidOf ((l.takeWhile fun e => decide (tidOf e < t))[k]) < t) = true := (List.all_eq_true.1 (List.all_takeWhile (l := l) (p := fun e => decide (tidOf e < t)))) _ (List.getElem_mem hk)
  have e : (l.takeWhile fun e => decide (tidOf e < t))[k] = nth l k := by
    rw [nth_lt l k (Nat.lt_of_lt_of_le h (pos_le l t))]
    have := List.takeWhile_prefix (l := l) (fun e => decide (tidOf e < t))
    exact List.IsPrefix.getElem this hk
  rw [e] at hm
  simpa using hm
theorem tw_stop (p : Int → Bool) : ∀ l : List Int, (l.takeWhile p).length < l.length → p (nth l (l.takeWhile p).length) = false
  | [], h => absurd h (Nat.not_lt_zero _)
  | x :: r, h => by
    by_cases hx : p x = true
    · rw [List.takeWhile_cons, if_pos hx] at h ⊢
      rw [List.length_cons, nth_cons_succ]
      exact tw_stop p r (by simpa using h)
    · rw [List.takeWhile_cons, if_neg hx, List.length_nil, nth_cons_zero]
      simpa using hx
theorem pos_ge {l : List Int} (hs : Srt l) {t : Int} {k : Nat} (h : pos l t ≤ k) (hk : k < l.length) : t ≤ tidOf (nth l k) := by
  have h0 := tw_stop (fun e => decide (tidOf e < t)) l (show pos l t < l.length by omega)
  have h1 : t ≤ tidOf (nth l (pos l t)) := by simpa [pos] using h0
  by_cases e : k = pos l t
  · rw [e]; exact h1
  · have := hs (pos l t) k (by omega) hk
    omega
theorem srt_ins {l : List Int} (hs : Srt l) {e : Int} (hn : ∀ x ∈ l, tidOf x ≠ tidOf e) : Srt (insL l (pos l (tidOf e)) e) := by
  have hp := pos_le l (tidOf e)
  intro i j hij hj
  rw [ins_len l _ e hp] at hj
  have gt_ : ∀ k, pos l (tidOf e) ≤ k → k < l.length → tidOf e < tidOf (nth l k) := fun k h1 h2 => by
    have := pos_ge hs h1 h2
    have := hn _ (nth_mem h2)
    omega
  rcases Nat.lt_trichotomy j (pos l (tidOf e)) with q | q | q
  · rw [nth_ins_lt l _ i e hp (by omega), nth_ins_lt l _ j e hp q]
    exact hs i j hij (by omega)
  · rw [q, nth_ins_at l _ e hp, nth_ins_lt l _ i e hp (by omega)]
    exact pos_lt (by omega)
  · rw [nth_ins_gt l _ j e hp q]
    rcases Nat.lt_trichotomy i (pos l (tidOf e)) with r | r | r
    · rw [nth_ins_lt l _ i e hp r]
      exact Int.lt_of_lt_of_le (pos_lt r) (pos_ge hs (by omega) (by omega))
    · rw [r, nth_ins_at l _ e hp]
      exact gt_ _ (by omega) (by omega)
    · rw [nth_ins_gt l _ i e hp r]
      exact hs _ _ (by omega) (by omega)
theorem mem_ins {l : List Int} {i : Nat} {e x : Int} : x ∈ insL l i e ↔ x = e ∨ x ∈ l := by
  unfold insL
  rw [List.mem_append, List.mem_cons]
  constructor
  · rintro (h | h | h)
    · exact .inr (List.mem_of_mem_take h)
    · exact .inl h
    · exact .inr (List.mem_of_mem_drop h)
  · rintro (h | h)
    · exact .inr (.inl h)
    · rw [← List.take_append_drop i l, List.mem_append] at h
      rcases h with h | h
      · exact .inl h
      · exact .inr (.inr h)
theorem kept_ne {own : Int} {l rd : List Int} {x : Int} (h : x ∈ kept own l rd) : tidOf x ≠ own := by
  have := (List.mem_filter.1 h).2
  simp [kn] at this
  exact this.1
theorem Gd.read {st : Cst} (h : Gd st) {e : Int} (ho : ownB e = true) (l : List Int) : Gd (rdS st e l) := by
  refine ⟨h.la, fun x hx => ?_, srt_ins (srt_filter h.so _) fun x hx => kept_ne hx⟩
  rcases mem_ins.1 hx with q | q
  · rw [q]; exact ho
  · exact h.ro x (List.mem_filter.1 q).1

theorem btr {a b c : World} (h : Below a.heap.size a b) (k : Below b.heap.size b c) : Below a.heap.size a c := h.trans (k.mono h.size)
theorem head_set {w : World} {X : Nat} {a v v' c : Value} (h : w.heap[X]? = some (.cells #[a, v, c] 134 (0, 0))) : (w.setCell ⟨X, 1, none⟩ v').heap[X]? = some (.cells #[a, v', c] 134 (0, 0)) := by
  have := Ba.heap_setCell_same (i := 1) h v'
  simpa using this
theorem own_set1 {w : World} {e : TypeId} {v : Value} {n S i : Nat} {xs : List Value} {u : Value} (h : w.ownsRow 0 e 1 v n xs) (hne : v.ownBlock ≠ some S) : (w.setCell ⟨S, i, none⟩ u).ownsRow 0 e 1 v n xs := by
  refine ⟨h.1, ?_⟩
  rcases h.2 with q | ⟨g, cap, cr, rfl, h0, hg, q⟩
  · exact .inl q
  · refine .inr ⟨g, cap, cr, rfl, h0, ?_, q⟩
    have : S ≠ g := fun e => hne (by rw [← e]; rfl)
    simp [World.setCell, Array.getElem?_modify, this, hg]
theorem enter_kn : ∀ (a : Array Value) (u : World), (callFunc 83 a).run Try.prog u = .ok (.enter 83 a) u := fun _ _ => by rfl

set_option maxRecDepth 100000 in
set_option maxHeartbeats 6400000 in
theorem read_ok {Y : Nat → Prop} {X : Nat} {w : World} {st : Cst} (h : CW Y X w st) (e : Int) (ho : ownB e = true) (b : Nat) (l : List Int) (hc : CL Y w b l) :
    Calls Try.prog 64 #[.pointer (some ⟨X, 0, none⟩), .int .u64 e, .pointer (some ⟨b, 0, none⟩)] w fun r w' => r = .returned (.tuple #[.int .i64 (rdR st e l), .int .i64 0]) ∧ CW Y X w' (rdS st e l) ∧ KY Y w w' := by
  obtain ⟨v, h⟩ := h
  have a0 := (own_u ho).1
  have a1 := (own_u ho).2
  have T := hide (takes_any e a0 a1 (some ⟨X, 0, none⟩) w)
  rw [ho] at T
  simp at T
  have TI := hide (Ep.tid_any e a0 a1)
  have KA := hide (know_any e a0 a1 b w)
  unfold knF at KA
  -- the world with what an access knows
  obtain ⟨w1, hw1⟩ : ∃ w1, w1 = (w.alloc (.cells #[.pointer (some ⟨b, 0, none⟩)] 34)).alloc (.cells #[.int .i64 (tidOf e)] 3) := ⟨_, rfl⟩
  rw [← hw1] at KA
  have b1 : Below w.heap.size w w1 := by rw [hw1]; exact btr (Ba.below_alloc _ _) (Ba.below_alloc _ _)
  have hA : w1.heap[w.heap.size]? = some (.cells #[.pointer (some ⟨b, 0, none⟩)] 34 (0, 0)) := by
    rw [hw1, Below.heap_alloc _ _ _ (by rw [World.size_alloc]; omega)]; exact heap_new _ _
  have hB : w1.heap[w.heap.size + 1]? = some (.cells #[.int .i64 (tidOf e)] 3 (0, 0)) := by
    rw [hw1]
    have := heap_new (w.alloc (.cells #[.pointer (some ⟨b, 0, none⟩)] 34)) (.cells #[.int .i64 (tidOf e)] 3)
    rwa [World.size_alloc] at this
  have hz : w1.heap.size = w.heap.size + 2 := by rw [hw1, World.size_alloc, World.size_alloc]
  have k1 : KY Y w w1 := KY.of b1 h.yl
  have C1 := h.kept b1
  have gl := fun g (q : v.ownBlock = some g) => (h.own.lt g q).2
  have hXl := h.lt
  clear h hw1
  -- what is known, in whatever world the row has changed in
  have PK : Hid (∀ W, w1.grownBy W v.ownBlock → ∀ o, 0 ≤ o → o ≤ 18446744073709551615 → Calls Try.prog 83 (#[.int .u64 o] ++ #[.pointer (some ⟨w.heap.size + 1, 0, none⟩), .pointer (some ⟨w.heap.size, 0, none⟩)]) W fun r w' => r = .returned (.bool (kn (tidOf e) l o)) ∧ w' = W) := by
    intro W hg o h0 h1
    refine kn_any (tidOf e) w.heap.size (w.heap.size + 1) b l o h0 h1 W ?_ ?_ ?_
    · exact hg.cell (a := ⟨w.heap.size + 1, 0, none⟩) (by rw [cell_of hB]; rfl) (fun q => by have : w.heap.size + 1 < w.heap.size := gl _ q.symm; omega)
    · exact hg.cell (a := ⟨w.heap.size, 0, none⟩) (by rw [cell_of hA]; rfl) (fun q => by have : w.heap.size < w.heap.size := gl _ q.symm; omega)
    · exact hc W (k1.trans (KY.grown hg (fun k hk => C1.yl k hk) C1.yg))
  have gr1 : w1.grownBy w1 v.ownBlock := ⟨rfl, rfl, rfl, Nat.le_refl _, fun _ _ _ => rfl⟩
  have P1 := hide (PK.out w1 gr1 st.last C1.gd.last.1 C1.gd.last.2)
  have DL := hide (deleteF_any 83 #[.pointer (some ⟨w.heap.size + 1, 0, none⟩), .pointer (some ⟨w.heap.size, 0, none⟩)] enter_kn (kn (tidOf e) l) v st.rd w1 C1.own (fun W hg k hk => PK.out W hg _ (C1.gd.u.nth k).1 (C1.gd.u.nth k).2))
  obtain ⟨oa, c, rfl⟩ := own_sl C1.own
  have x0 := cell_of C1.head 0
  have x1 := cell_of C1.head 1
  simp at x0 x1
  have CC := hide C1
  have K1 := hide k1
  have GD := hide (C1.gd.read ho l)
  have hX1 := C1.lt
  clear C1 k1 PK gr1 hA hB b1 hc gl hz hXl
  unfold rdR
  obtain ⟨kb, hkb⟩ : ∃ kb, kn (tidOf e) l st.last = kb := ⟨_, rfl⟩
  rw [hkb] at P1 ⊢
  clear hkb
  generalize hF : w.heap.size = A at *
  cases kb
  all_goals
    go_enter Try.func64, Try.ntmps64
    go_wp2_with fail
    refine T.out.mono ?_
    rintro r w0 ⟨rfl, e0⟩
    obtain rfl := e0.symm
    go_wp2_with fail
    refine KA.out.mono ?_
    rintro r w0 ⟨rfl, e0⟩
    obtain rfl := e0.symm
    go_wp2_with fail
    refine P1.out.mono ?_
    rintro r w0 ⟨rfl, e0⟩
    obtain rfl := e0.symm
    go_wp2_with fail
    refine DL.out.mono ?_
    rintro r w2 ⟨v2, rfl, o2, bk2, g2⟩
    obtain ⟨oa2, c2, rfl⟩ := own_sl o2
    have h2 : w2.heap[X]? = some (.cells #[.int .u64 st.last, .slice oa st.rd.length c, .bool st.tl] 134 (0, 0)) := (g2.block X hX1 (fun q => CC.out.ne q.symm)).trans CC.out.head
    have y1 := cell_of h2 1
    simp at y1
    have f1 : w2.frozen? ⟨X, 1, none⟩ = false := Ba.frozen_of h2 1
    have ne2 := CC.out.ne
    rw [← bk2] at ne2
    have C3 : Hid (CX Y X (w2.setCell ⟨X, 1, none⟩ (.slice oa2 (st.rd.filter fun x => !kn (tidOf e) l x).length c2)) ⟨st.last, kept (tidOf e) l st.rd, st.tl⟩ (.slice oa2 (st.rd.filter fun x => !kn (tidOf e) l x).length c2)) :=
      ⟨head_set h2, own_set1 o2 ne2, ne2, CC.out.yx, fun g q => CC.out.yg g (bk2 ▸ q), fun k hk => by rw [show (w2.setCell ⟨X, 1, none⟩ (.slice oa2 (st.rd.filter fun x => !kn (tidOf e) l x).length c2)).heap.size = w2.heap.size by simp [World.setCell]]; exact Nat.lt_of_lt_of_le (CC.out.yl k hk) g2.size, ⟨CC.out.gd.la, fun x hx => CC.out.gd.ro x (List.mem_filter.1 hx).1, srt_filter CC.out.gd.so _⟩⟩
    have K3 : Hid (KY Y w (w2.setCell ⟨X, 1, none⟩ (.slice oa2 (st.rd.filter fun x => !kn (tidOf e) l x).length c2))) := (K1.out.trans (KY.grown g2 CC.out.yl CC.out.yg)).trans (KY.set _ CC.out.yx _ _)
    clear h2 ne2 bk2 g2 o2 DL P1 KA T CC
    generalize (st.rd.filter fun x => !kn (tidOf e) l x).length = n2 at *
    go_wp2_with fail
    generalize w2.setCell ⟨X, 1, none⟩ (.slice oa2 n2 c2) = w3 at *
    refine (TI.out _).mono ?_
    rintro r w0 ⟨rfl, e0⟩
    obtain rfl := e0.symm
    have FN := hide (find_any ⟨_, C3.out⟩ (tidOf e))
    go_wp2_with fail
    refine FN.out.mono ?_
    rintro r w0 ⟨rfl, e0⟩
    obtain rfl := e0.symm
    clear FN
    have z1 := cell_of C3.out.head 1
    simp at z1
    have C4 := hide (C3.out.kept (Ba.below_alloc w3 (.cells #[.int .u64 e] 61)))
    have hv4 : (w3.alloc (.cells #[.int .u64 e] 61)).heap[w3.heap.size]? = some (.cells #[.int .u64 e] 61 (0, 0)) := heap_new _ _
    have IN := hide (insert_any _ (kept (tidOf e) l st.rd) (pos (kept (tidOf e) l st.rd) (tidOf e)) e w3.heap.size (w3.alloc (.cells #[.int .u64 e] 61)) C4.out.own (pos_le _ _) (Nat.le_trans (srt_len C4.out.gd.so C4.out.gd.ro) (by decide)) hv4 (fun q => Nat.lt_irrefl _ (C3.out.own.lt _ q).2))
    unfold InsR at IN
    have K4 := hide (K3.out.trans (KY.of (Ba.below_alloc w3 (.cells #[.int .u64 e] 61)) C3.out.yl))
    have z4 := cell_of C4.out.head 1
    simp at z4
    clear hv4 C3 K3
    obtain ⟨KT, hKT⟩ : ∃ KT, kept (tidOf e) l st.rd = KT := ⟨_, rfl⟩
    simp only [hKT] at C4 IN ⊢
    generalize hPO : pos KT (tidOf e) = PO at *
    go_wp2_with fail
    refine IN.out.mono ?_
    rintro r w5 ⟨v5, rfl, o5, bk5, g5⟩
    obtain ⟨oa5, c5, rfl⟩ := own_sl o5
    have h5 : w5.heap[X]? = some (.cells #[.int .u64 st.last, .slice oa2 n2 c2, .bool st.tl] 134 (0, 0)) := (g5.block X C4.out.lt (fun q => C4.out.ne q.symm)).trans C4.out.head
    have u1 := cell_of h5 1
    simp at u1
    have f5 : w5.frozen? ⟨X, 1, none⟩ = false := Ba.frozen_of h5 1
    have ne5 : (Value.slice oa5 (insL KT PO e).length c5).ownBlock ≠ some X := by
      rcases bk5 with q | ⟨N, q, hN⟩
      · rw [q]; exact C4.out.ne
      · rw [q]; intro e; cases e; have := C4.out.lt; omega
    have C6 : Hid (CX Y X (w5.setCell ⟨X, 1, none⟩ (.slice oa5 (insL KT PO e).length c5)) (rdS st e l) (.slice oa5 (insL KT PO e).length c5)) := by
      have erd : (rdS st e l).rd = insL KT PO e := by simp only [rdS, hKT, hPO]
      refine ⟨head_set h5, ?_, ne5, C4.out.yx, fun g q => ?_, fun k hk => ?_, GD.out⟩
      · rw [erd]; exact own_set1 o5 ne5
      · rcases bk5 with r | ⟨N, r, hN⟩
        · rw [r] at q; exact C4.out.yg g q
        · rw [r] at q; cases q; exact fun q => by have := C4.out.yl _ q; omega
      · rw [show (w5.setCell ⟨X, 1, none⟩ (.slice oa5 (insL KT PO e).length c5)).heap.size = w5.heap.size by simp [World.setCell]]; exact Nat.lt_of_lt_of_le (C4.out.yl k hk) g5.size
    have K6 : Hid (KY Y w (w5.setCell ⟨X, 1, none⟩ (.slice oa5 (insL KT PO e).length c5))) := (K4.out.trans (KY.grown g5 C4.out.yl C4.out.yg)).trans (KY.set _ C4.out.yx _ _)
    clear h5 ne5 bk5 g5 o5 IN C4 K4
    generalize (insL KT PO e).length = n5 at *
    go_wp2_with fail
    go_ret2
    exact ⟨rfl, ⟨_, C6.out⟩, K6.out⟩
end Ce
end Go.Proofs.Ytekdcfdjohlfcaa
