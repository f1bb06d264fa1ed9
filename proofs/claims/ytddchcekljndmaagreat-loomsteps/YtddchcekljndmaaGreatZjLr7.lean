import Derived.Test.YtddchcekljndmaaGreatZjLr6
import Derived.Deep.Slices
import Derived.ShutString
import Derived.ChangeOld
import Derived.Deep.RegionLaw
import Derived.Deep.RegionWith
import Derived.Maps.AppendAt
/- A cursor of package pick whose lists lie above a bound (so that they are apart from what a loom changes). -/
namespace Go.Proofs.YtddchcekljndmaaGreat
open Go.ChangeShapes Go.WideShapes Go.ChangeAt Go.RowKit
namespace Lk
open Ba Pk

/-- a cursor lies in block C, its lists from N on -/
def Cu (w : World) (N C : Nat) (p d : List Int) : Prop :=
  ∃ oa ca ob cb, w.heap[C]? = some (.cells #[.slice oa p.length ca, .slice ob d.length cb] 112 (0, 0)) ∧ (At w oa p ∧ p.length ≤ ca ∧ ∀ a, oa = some a → N ≤ a.block ∧ a.block < C) ∧ At w ob d ∧ d.length ≤ cb ∧ ∀ a, ob = some a → N ≤ a.block ∧ a.block < C
theorem Cu.cur {w : World} {N C : Nat} {p d : List Int} (h : Cu w N C p d) : Cur w C p d := by
  obtain ⟨oa, ca, ob, cb, h0, ⟨h1, h2, h4⟩, h5, h6, h8⟩ := h
  exact ⟨oa, ca, ob, cb, h0, ⟨h1, h2, fun a e => (h4 a e).2⟩, h5, h6, fun a e => (h8 a e).2⟩
theorem Cu.lt {w : World} {N C : Nat} {p d : List Int} (h : Cu w N C p d) : C < w.heap.size := by
  obtain ⟨oa, ca, ob, cb, h0, _⟩ := h
  exact heap_lt h0
theorem Cu.keep {w w' : World} {N C : Nat} {p d : List Int} (h : Cu w N C p d) (hk : ∀ x, N ≤ x → x ≤ C → w'.heap[x]? = w.heap[x]?) (hN : N ≤ C) : Cu w' N C p d := by
  obtain ⟨oa, ca, ob, cb, h0, ⟨h1, h2, h4⟩, h5, h6, h8⟩ := h
  refine ⟨oa, ca, ob, cb, (hk C hN (Nat.le_refl _)).trans h0, ⟨?_, h2, h4⟩, ?_, h6, h8⟩
  · intro k hk'
    obtain ⟨b, off, e, hc⟩ := h1 k hk'
    have q := h4 _ e
    refine ⟨b, off, e, ?_⟩
    rw [← hc]
    simp only [World.cell?, hk b q.1 (Nat.le_of_lt q.2)]
  · intro k hk'
    obtain ⟨b, off, e, hc⟩ := h5 k hk'
    have q := h8 _ e
    refine ⟨b, off, e, ?_⟩
    rw [← hc]
    simp only [World.cell?, hk b q.1 (Nat.le_of_lt q.2)]
theorem Cu.below {w w' : World} {N C : Nat} {p d : List Int} (h : Cu w N C p d) (hb : Below w.heap.size w w') : Cu w' N C p d := by
  obtain ⟨oa, ca, ob, cb, h0, ⟨h1, h2, h4⟩, h5, h6, h8⟩ := h
  exact ⟨oa, ca, ob, cb, heap_below h0 hb, ⟨h1.below hb, h2, h4⟩, h5.below hb, h6, h8⟩
theorem next_some (N C : Nat) (x : Int) (p d : List Int) (w : World) (h : Cu w N C (x :: p) d) :
    Calls Tryz.prog 32 #[.pointer (some ⟨C, 0, none⟩)] w fun r w' => r = .returned (.tuple #[.int .i64 x, .bool true]) ∧ Cu w' N C p d ∧ KB C w w' := by
  obtain ⟨oa, ca, ob, cb, h0, ⟨h1, h2, h4⟩, h5, h6, h8⟩ := h
  obtain ⟨b, off, rfl, hc⟩ := h1.head
  have hbC := h4 _ rfl
  simp only at hbC
  have H := hide h0
  have H1 := hide h1
  have H5 := hide h5
  have HC := hide hc
  simp at h2
  clear h0 h1 h5 hc
  go_enter Tryz.func32, Tryz.ntmps32
  go_wp2_with fail
  refine (takers_any _ _).mono ?_
  rintro r w1 ⟨rfl, b1⟩
  have G1 := hide (heap_below H.out b1)
  have c0 := cell_of G1.out 0
  have f0 := frozen_of G1.out 0
  have A1 := hide (H1.out.below b1)
  have A5 := hide (H5.out.below b1)
  obtain ⟨_, _, e, hc⟩ := A1.out.head
  simp at e
  obtain ⟨rfl, rfl⟩ := e
  have B := hide b1
  clear b1
  go_wp2_with fail
  refine (take_some C 0 b off p.length ca x _ c0 f0 hc h2).mono ?_
  rintro r w2 ⟨rfl, off', ho, hw⟩
  have HW := hide hw
  have HO := hide ho
  clear hw ho
  go_wp2_with fail
  go_ret2
  refine ⟨rfl, ⟨some ⟨b, off', none⟩, ca - 1, ob, cb, ?_, ⟨at_tail A1.out hbC.2 HO.out HW.out, by omega, fun a e => by cases e; exact hbC⟩, ?_, h6, h8⟩, ?_⟩
  · rw [HW.out, Ba.heap_setCell_same G1.out]
    rfl
  · rw [HW.out]
    exact ((KB.refl C w1).setCell 0 _).at A5.out fun a e => by have := h8 a e; omega
  · rw [HW.out]
    exact (KB.of B.out).setCell 0 _
theorem draw_some (N C : Nat) (x : Int) (p d : List Int) (n : Int) (w : World) (h : 2 ≤ n ∧ n ≤ 64) (hx : 0 ≤ x) (hC : Cu w N C p (x :: d)) :
    Calls Tryz.prog 102 #[.pointer (some ⟨C, 0, none⟩), .int .i64 n] w fun r w' => r = .returned (.tuple #[.int .i64 (x % n), .int .i64 0]) ∧ Cu w' N C p d ∧ KB C w w' := by
  obtain ⟨oa, ca, ob, cb, h0, ⟨h1, h2, h4⟩, h5, h6, h8⟩ := hC
  obtain ⟨b, off, rfl, hc⟩ := h5.head
  have hbC := h8 _ rfl
  simp only at hbC
  have H := hide h0
  have H1 := hide h1
  have H5 := hide h5
  simp at h6
  clear h0 h1 h5 hc
  have d1 : decide (n < 1) = false := by simp; omega
  have d2 : decide (64 < n) = false := by simp; omega
  have d3 : (n == 1) = false := by simp; omega
  have n1 := h.1
  have n2 := h.2
  go_enter Tryz.func102, Tryz.ntmps102
  go_wp2_with fail
  refine (takers_any _ _).mono ?_
  rintro r w1 ⟨rfl, b1⟩
  have G1 := hide (heap_below H.out b1)
  have c0 := cell_of G1.out 1
  have f0 := frozen_of G1.out 1
  have A1 := hide (H1.out.below b1)
  have A5 := hide (H5.out.below b1)
  obtain ⟨_, _, e, hc⟩ := A5.out.head
  simp at e
  obtain ⟨rfl, rfl⟩ := e
  have B := hide b1
  clear b1
  go_wp2_with fail
  refine (take_some C 1 b off d.length cb x _ c0 f0 hc h6).mono ?_
  rintro r w2 ⟨rfl, off', ho, hw⟩
  have HW := hide hw
  have HO := hide ho
  clear hw ho
  go_wp2_with fail
  go_ret2
  refine ⟨rfl, ⟨oa, ca, some ⟨b, off', none⟩, cb - 1, ?_, ⟨?_, h2, h4⟩, at_tail A5.out hbC.2 HO.out HW.out, by omega, fun a e => by cases e; exact hbC⟩, ?_⟩
  · rw [HW.out, Ba.heap_setCell_same G1.out]
    rfl
  · rw [HW.out]
    exact ((KB.refl C w1).setCell 1 _).at A1.out fun a e => by have := h4 a e; omega
  · rw [HW.out]
    exact (KB.of B.out).setCell 1 _
theorem run_fresh (w : World) (oa : Option Addr) (l : List Int) (c : Nat) (ty : TypeId) (hA : At w oa l) (hl : l.length ≤ 1000) :
    ∃ ob d W, (Builtin.append_ #[109, 109] ty #[.slice none 0 0, .slice oa l.length c]).run Tryz.prog w = .ok (.slice ob l.length d) W ∧ l.length ≤ d ∧ At W ob l ∧ (∀ a, ob = some a → w.heap.size ≤ a.block ∧ a.block < W.heap.size) ∧ Below w.heap.size w W := by
  cases hi : Tryz.prog.info? 3 with
  | none => have := Pk.info_int; rw [hi] at this; cases this
  | some i =>
    have hx := Pk.info_int
    rw [hi] at hx
    simp at hx
    obtain ⟨hz, hs, hb⟩ := hx
    by_cases h0 : l.length = 0
    · obtain rfl := List.eq_nil_of_length_eq_zero h0
      refine ⟨none, 0, w, ?_, Nat.le_refl _, At.nil _ _, fun a e => (by cases e), Below.refl _ _⟩
      have hs0 : (Builtin.firstCells 1 0 (.slice oa 0 c)).run Tryz.prog w = .ok #[] w := by
        cases oa with
        | none => exact run_firstCells_none w 1 0 0 c
        | some a => exact run_firstCells_some w 1 0 a 0 c [] rfl (fun j v h => by simp at h)
      simp [Builtin.append_, run_underlying Tryz.underlying109, sizeOf, typeInfo, hi, hs, Builtin.lenOf, hs0]
    · obtain ⟨b, off, rfl, _⟩ := hA 0 (by omega)
      have hnews : ∀ j u, (l.map (Value.int .i64))[j]? = some u → w.cell? ((⟨b, off, none⟩ : Addr).add j) = some u := by
        intro j u hu
        have hj : j < l.length := by
          rcases Nat.lt_or_ge j l.length with q | q
          · exact q
          · rw [List.getElem?_eq_none (by simpa using q)] at hu; cases hu
        obtain ⟨b', off', e, hc⟩ := hA j hj
        simp at e
        obtain ⟨rfl, rfl⟩ := e
        rw [List.getElem?_map, List.getElem?_eq_getElem hj] at hu
        simp at hu
        rw [← hu, ← nth_lt l j hj, Addr.add_lit]
        exact hc
      have src := Src.ofSlice (P := Tryz.prog) w (size := 1) Tryz.underlying109 ⟨b, off, none⟩ l.length c (l.map (Value.int .i64)) (by simp) hnews (fun u hu => by
        obtain ⟨x, _, rfl⟩ := List.mem_map.1 hu
        rfl)
      have hold : (Builtin.firstCells i.size 0 (.slice none 0 0)).run Tryz.prog w.drew = .ok ([] : List Value).toArray w.drew := run_firstCells_none w.drew i.size 0 0 0
      have hcap : Builtin.nextslicecap (0 + l.length) 0 * i.bytes ≤ 281474976710656 := by
        rw [Nat.zero_add, nextslicecap_zero (by omega), hb]
        omega
      have := run_append_grow_src (P := Tryz.prog) w 109 109 ty 3 i (.int .i64 0) Tryz.underlying109 hi hz none 0 0 [] hold (.slice (some ⟨b, off, none⟩) l.length c) l.length (l.map (Value.int .i64)) (by rw [hs]; exact src) (by omega) (by omega) hcap
      simp only [Nat.zero_add, List.nil_append] at this
      refine ⟨_, _, _, this, grownCap_ge _ _ _ _, ?_, fun a e => (by cases e; simp), btr (bdrew1 w) (below_alloc _ _)⟩
      intro k hk
      refine ⟨w.heap.size, 0, rfl, ?_⟩
      rw [Nat.zero_add]
      have hn := heap_new w.drew (.cells ((l.map (Value.int .i64)).toArray ++ Builtin.zeroCells (Value.cells (.int .i64 0)) (grownCap w l.length 0 3 - l.length)) 3)
      have := cell_of hn k
      rw [show w.drew.heap.size = w.heap.size from rfl] at this
      rw [this, Array.getElem?_append_left (by simpa using hk)]
      exact row_at l k hk
theorem fresh_any (oa : Option Addr) (l : List Int) (c : Nat) (w : World) (hA : At w oa l) (hl : l.length ≤ 1000) :
    Calls Tryz.prog 62 #[.slice oa l.length c] w fun r w' => ∃ ob d, r = .returned (.slice ob l.length d) ∧ l.length ≤ d ∧ At w' ob l ∧ (∀ a, ob = some a → w.heap.size ≤ a.block ∧ a.block < w'.heap.size) ∧ Below w.heap.size w w' := by
  obtain ⟨ob, d, W, hr, h1, h2, h3, h4⟩ := run_fresh w oa l c 109 hA hl
  have HR := hide hr
  have H2 := hide h2
  have H4 := hide h4
  clear hr h2 h4 hA
  go_enter Tryz.func62, Tryz.ntmps62
  go_wp2_with (at_builtin; refine Lib.wpList_append_run _ rfl _ _ 109 109 rfl _ _ rfl rfl _ _ HR.out ?_)
  go_ret
  exact ⟨ob, d, rfl, h1, H2.out, h3, H4.out⟩
theorem new_cu (oa ob : Option Addr) (p d : List Int) (c e : Nat) (w : World) (hA : At w oa p) (hB : At w ob d) (h0 : ne p d = 0) :
    Calls Tryz.prog 26 #[.slice oa p.length c, .slice ob d.length e] w fun r w' => ∃ C, r = .returned (.tuple #[.pointer (some ⟨C, 0, none⟩), .int .i64 0]) ∧ w.heap.size ≤ C ∧ Cu w' w.heap.size C p d ∧ Below w.heap.size w w' := by
  obtain ⟨hp, hd, h3, h4⟩ := ne_zero h0
  have HA := hide hA
  have HB := hide hB
  clear hA hB h0
  have g1 : decide (200 < (p.length : Int)) = false := by simp; omega
  have g2 : decide (64 < (d.length : Int)) = false := by simp; omega
  go_enter Tryz.func26, Tryz.ntmps26
  go_wp2_with fail
  refine (between_any oa p c (-1) 1000 _ HA.out (by unfold maxLen; omega)).mono ?_
  rw [h3]
  rintro r w1 ⟨rfl, rfl⟩
  go_wp2_with fail
  refine (between_any ob d e 0 1000 _ HB.out (by unfold maxLen; omega)).mono ?_
  rw [h4]
  rintro r w1 ⟨rfl, rfl⟩
  go_wp2_with fail
  refine (fresh_any oa p c _ HA.out (by omega)).mono ?_
  rintro r w2 ⟨o1, c1, rfl, k1, k2, k3, k4⟩
  have K2 := hide k2
  have K4 := hide k4
  clear k2 k4
  go_wp2_with fail
  refine (fresh_any ob d e _ (HB.out.below K4.out) (by omega)).mono ?_
  rintro r w3 ⟨o2, c2, rfl, l1, l2, l3, l4⟩
  have L2 := hide l2
  have L4 := hide l4
  clear l2 l4
  go_wp2_with fail
  go_ret2
  have s1 := K4.out.size
  have s2 := L4.out.size
  exact ⟨w3.heap.size, rfl, by omega, ⟨o1, c1, o2, c2, heap_new _ _, ⟨(K2.out.below L4.out).below (below_alloc _ _), k1, fun a e => by have := k3 a e; omega⟩, L2.out.below (below_alloc _ _), l1, fun a e => by have := l3 a e; omega⟩, btr (btr K4.out L4.out) (below_alloc _ _)⟩
theorem next_cu (N C : Nat) (p d : List Int) (w : World) (h : Cu w N C p d) :
    Calls Tryz.prog 32 #[.pointer (some ⟨C, 0, none⟩)] w fun r w' => r = .returned (.tuple #[.int .i64 (nth p 0), .bool (nok p)]) ∧ Cu w' N C p.tail d ∧ KB C w w' := by
  cases p with
  | nil =>
    refine (next_none C d w h.cur).mono ?_
    rintro r w1 ⟨rfl, b1⟩
    exact ⟨rfl, h.below b1, KB.of b1⟩
  | cons x p => exact next_some N C x p d w h
theorem draw_cu (N C : Nat) (p d : List Int) (n : Int) (w : World) (h : Cu w N C p d) (hd : ∀ x ∈ d, 0 ≤ x) :
    Calls Tryz.prog 102 #[.pointer (some ⟨C, 0, none⟩), .int .i64 n] w fun r w' => r = .returned (.tuple #[.int .i64 (dv d n), .int .i64 (de n)]) ∧ Cu w' N C p (dr d n) ∧ KB C w w' := by
  by_cases h1 : n < 1 ∨ 64 < n
  · refine (draw_arg _ n w h1).mono ?_
    rintro r w1 ⟨rfl, rfl⟩
    simp only [dv, de, dr, if_pos h1, if_pos (show n < 1 ∨ 64 < n ∨ n = 1 by omega)]
    exact ⟨by first | rfl | trivial, h, KB.refl _ _⟩
  · by_cases h2 : n = 1
    · subst h2
      refine (draw_one _ w).mono ?_
      rintro r w1 ⟨rfl, rfl⟩
      exact ⟨rfl, h, KB.refl _ _⟩
    · simp only [dv, de, dr, if_neg h1, if_neg h2, if_neg (show ¬ (n < 1 ∨ 64 < n ∨ n = 1) by omega)]
      cases d with
      | nil =>
        refine (draw_none C p n w (by omega) h.cur).mono ?_
        rintro r w1 ⟨rfl, b1⟩
        exact ⟨by simp [nth], h.below b1, KB.of b1⟩
      | cons x d => exact draw_some N C x p d n w (by omega) (hd x (by simp)) h
end Lk
end Go.Proofs.YtddchcekljndmaaGreat
/- A list of int among a law's arguments, opened. -/
namespace Go.Proofs.YtddchcekljndmaaGreat
open Go.ChangeShapes Go.WideShapes Go.ChangeAt Go.RowKit
namespace Ba

section
variable {H : Type} {enc : TypeId × Value → H} {w : World}
theorem ints_open {fuel : Nat} {oa : Option Addr} {len cap : Nat} {x : DataW H × List MemPlace} (h : DataW.trod enc Tryz.prog w 0 (fun _ => true) true fuel 23 [.slice oa len cap] = some x) : ∃ l, l.length = len ∧ At w oa l ∧ len ≤ cap ∧ cap ≤ maxLen := by
  rcases open_ints Tryz.underlying23 Tryz.underlying3 (by kernel_rfl) h with ⟨hcs, _⟩ | ⟨x, l, c, zs, hcs, _, hl, hm, hz, _, hcell, hwz⟩
  · simp at hcs
    obtain ⟨rfl, rfl, rfl⟩ := hcs
    exact ⟨[], rfl, At.nil _ _, Nat.le_refl _, Nat.zero_le _⟩
  · simp at hcs
    obtain ⟨rfl, rfl, rfl⟩ := hcs
    simp at hz
    refine ⟨zs.take len, by simp; omega, fun k hk => ?_, hl, hm⟩
    have hk' : k < len ∧ k < zs.length := by simp at hk; omega
    obtain ⟨b, off, spot⟩ := x
    have hspot : spot = none := by simpa [Addr.add] using World.cell?_spot (hcell 0 (by omega))
    subst hspot
    have hc := hcell k hk'.2
    refine ⟨b, off, rfl, ?_⟩
    rw [nth_take zs len k hk'.1]
    rw [Addr.add_lit] at hc
    exact hc
end
end Ba
end Go.Proofs.YtddchcekljndmaaGreat
/- A list of bool among a law's arguments, opened. -/
namespace Go.Proofs.YtddchcekljndmaaGreat
open Go.ChangeShapes Go.WideShapes Go.ChangeAt Go.RowKit
namespace Ba

/-- the cells from oa on hold l -/
def BAt (w : World) (oa : Option Addr) (l : List Bool) : Prop :=
  ∀ k x, l[k]? = some x → ∃ b off, oa = some ⟨b, off, none⟩ ∧ w.cell? ⟨b, off + k, none⟩ = some (.bool x)
theorem BAt.below {w w' : World} {oa : Option Addr} {l : List Bool} (h : BAt w oa l) (hb : Below w.heap.size w w') : BAt w' oa l := by
  intro k x hk
  obtain ⟨b, off, he, hc⟩ := h k x hk
  exact ⟨b, off, he, (hb.cell (World.block_lt_of_cell? w _ hc)).trans hc⟩
theorem BAt.nil (w : World) (oa : Option Addr) : BAt w oa [] := fun _ _ hk => by simp at hk

section
variable {H : Type} {enc : TypeId × Value → H} {w : World}
end
end Ba
end Go.Proofs.YtddchcekljndmaaGreat
/- Package pick: Nth, over this seat's program. -/
namespace Go.Proofs.YtddchcekljndmaaGreat
open Go.ChangeShapes Go.WideShapes Go.ChangeAt Go.RowKit
namespace Pk
open Ba

def ofx (p : Int) (l : List Int) : Int := if p < 0 then 0 else if l.length = 0 then 0 else nth l (p.toNat % l.length)
def ofe (p : Int) (l : List Int) : Int := if p < 0 then 1 else if l.length = 0 then 6 else 0
theorem of_any (p : Int) (oa : Option Addr) (l : List Int) (c : Nat) (w : World) (hA : At w oa l) (hm : l.length ≤ maxLen) :
    Calls Tryz.prog 33 #[.int .i64 p, .slice oa l.length c] w fun r w' => r = .returned (.tuple #[.int .i64 (ofx p l), .int .i64 (ofe p l)]) ∧ w' = w := by
  by_cases h : p < 0
  · simp only [ofx, ofe, if_pos h]
    exact of_neg p oa _ c w h
  · obtain ⟨n, rfl⟩ := Int.eq_ofNat_of_zero_le (show 0 ≤ p by omega)
    by_cases h0 : l.length = 0
    · simp only [ofx, ofe, if_neg h, h0, if_true]
      exact of_none n oa c w
    · simp only [ofx, ofe, if_neg h, if_neg h0, Int.toNat_natCast]
      exact of_ok n oa l c w hA (by omega) hm
/-- how many of the first k are so -/
def cnt (l : List Bool) (k : Nat) : Nat := ((l.take k).filter id).length
/-- what Nth answers -/
def NthIs (l : List Bool) (p : Int) (at_ : Int) (ok : Bool) : Prop :=
  (ok = true ∧ ∃ k : Nat, at_ = (k : Int) ∧ l[k]? = some true ∧ (cnt l k : Int) = p) ∨ (ok = false ∧ at_ = 0 ∧ ∀ k, l[k]? = some true → (cnt l k : Int) ≠ p)
def NthR (l : List Bool) (p : Int) (r : Ending) : Prop := ∃ at_ ok, r = .returned (.tuple #[.int .i64 at_, .bool ok]) ∧ NthIs l p at_ ok
end Pk
end Go.Proofs.YtddchcekljndmaaGreat
/- A loom's run, without memory: its state, and what each of its steps makes of it. -/
namespace Go.Proofs.YtddchcekljndmaaGreat
open Go.ChangeShapes Go.WideShapes Go.ChangeAt Go.RowKit
namespace Lo
open Ba

abbrev Ev := En.Ev
abbrev Mb := Cr.Mb
abbrev OpD := De.OpD
abbrev Ca := Fk.Ca
abbrev St := _root_.Go.Proofs.YtddchcekljndmaaGreat.Pi.St
abbrev Gt := _root_.Go.Proofs.YtddchcekljndmaaGreat.Pi.Gt
abbrev Wt := Pe.Wt

/-- a loom: programs, what is left of plan and draws, goroutines, channels by names, their numbers, how many were made, the trace, whether one panicked -/
structure Lm where
  ps : List (List OpD)
  p : List Int
  d : List Int
  cr : List Mb
  sts : List (Option St)
  nm : List Int
  md : Int
  tr : List Ev
  pk : Bool
/-- a case of an operation -/
def cav (c : De.Cs) : Ca := ⟨c.send, c.ch, c.val⟩
def bareE (k g : Int) : Ev := ⟨k, g, -1, -1, -1, -1, false, false⟩
def tellS (s : Lm) (e : Ev) : Lm := { s with tr := s.tr ++ [e] }
def goS (s : Lm) (e : Ev) : Lm := tellS { s with cr := Cr.chL s.cr e.g 0 0 1 } e
def waitsS (s : Lm) (e : Ev) : Lm := tellS { s with cr := Cr.chL s.cr e.g 0 1 0 } e
def wakesS (s : Lm) (e : Ev) : Lm := tellS { s with sts := Fk.leaveS e.g s.sts, cr := Cr.chL s.cr e.g 1 0 1 } e
def opensS (s : Lm) (name : Int) (size : Int) : Lm := { s with sts := s.sts.set name.toNat (some (_root_.Go.Proofs.YtddchcekljndmaaGreat.Pi.st0 size.toNat)), nm := s.nm.set name.toNat s.md, md := s.md + 1 }
/-- a name's number -/
def num (s : Lm) (c : Int) : Int := nth s.nm c.toNat
/-- what is told of a send or receive that is done -/
def tryV (s : Lm) (g at_ : Int) (c : Ca) (t : Gt) : Ev := ⟨if c.sd then 3 else 4, g, num s c.ch, at_, if c.sd then c.v else t.v, if t.wk then t.m.g else -1, c.sd, t.ok⟩
/-- and of whom it served -/
def servV (e : Ev) (t : Gt) : Ev := ⟨7, t.m.g, e.c, t.m.c, if e.s then e.v else t.m.v, e.g, !e.s, true⟩
structure Tr3 where
  s : Lm
  done : Bool
  fine : Bool
def tryF (s : Lm) (g at_ : Int) (c : Ca) : Tr3 :=
  if Fk.tryE s.sts c ≠ 0 ∨ (Fk.tryG s.sts c).rd = false then ⟨{ s with sts := Fk.tryS s.sts c }, false, Fk.tryE s.sts c == 0⟩
  else if (Fk.tryG s.sts c).wk then ⟨wakesS (goS { s with sts := Fk.tryS s.sts c } (tryV s g at_ c (Fk.tryG s.sts c))) (servV (tryV s g at_ c (Fk.tryG s.sts c)) (Fk.tryG s.sts c)), true, true⟩
  else ⟨goS { s with sts := Fk.tryS s.sts c } (tryV s g at_ c (Fk.tryG s.sts c)), true, true⟩
def waitN (sts : List (Option St)) (c : Ca) (g : Int) : List (Option St) := match Fk.nmB sts c.ch with
  | none => sts
  | some st => sts.set c.ch.toNat (some (_root_.Go.Proofs.YtddchcekljndmaaGreat.Pi.waitS st c.sd ⟨g, -1, c.v⟩))
structure Tr2 where
  s : Lm
  fine : Bool
def aloneF (s : Lm) (g : Int) (c : Ca) : Tr2 :=
  if (tryF s g (-1) c).done || !(tryF s g (-1) c).fine then ⟨(tryF s g (-1) c).s, (tryF s g (-1) c).fine⟩
  else ⟨waitsS { (tryF s g (-1) c).s with sts := waitN (tryF s g (-1) c).s.sts c g } ⟨6, g, num s c.ch, -1, c.v, -1, c.sd, false⟩, true⟩
def cas (o : OpD) : List Ca := o.cases.map cav
def caseAt (o : OpD) (i : Int) : Ca := ((cas o)[i.toNat]?).getD ⟨false, 0, 0⟩
def chooseF (s : Lm) (g : Int) (o : OpD) : Tr2 :=
  if 0 < (Fk.rdyL (cas o) s.sts).length then
    ⟨(tryF { s with d := Pk.dr s.d (Fk.rdyL (cas o) s.sts).length } g (nth (Fk.rdyL (cas o) s.sts) (Pk.dv s.d (Fk.rdyL (cas o) s.sts).length).toNat) (caseAt o (nth (Fk.rdyL (cas o) s.sts) (Pk.dv s.d (Fk.rdyL (cas o) s.sts).length).toNat))).s,
     (tryF { s with d := Pk.dr s.d (Fk.rdyL (cas o) s.sts).length } g (nth (Fk.rdyL (cas o) s.sts) (Pk.dv s.d (Fk.rdyL (cas o) s.sts).length).toNat) (caseAt o (nth (Fk.rdyL (cas o) s.sts) (Pk.dv s.d (Fk.rdyL (cas o) s.sts).length).toNat))).fine⟩
  else if o.def_ then ⟨goS s (bareE 8 g), true⟩
  else ⟨waitsS { s with sts := Fk.pkA g (cas o) s.sts } ⟨6, g, -1, o.cases.length, 0, -1, false, false⟩, true⟩
/-- does it wait still? -/
def parked (s : Lm) (g : Int) : Bool := (Cr.one0 (Cr.gt s.cr g)).s == 1
/-- those that waited to receive are woken, one behind the other -/
def wakeAll (g c : Int) : Lm → List Wt → Lm
  | s, [] => s
  | s, x :: l => wakeAll g c (if parked s x.g then wakesS s ⟨7, x.g, c, x.c, 0, g, false, false⟩ else s) l
/-- the first that waits still -/
def first (s : Lm) : List Wt → Int
  | [] => -1
  | x :: l => if parked s x.g then x.g else first s l
structure TrW where
  s : Lm
  who : Int
def closesF (s : Lm) (g name : Int) : TrW := match Fk.nmB s.sts name with
  | none => ⟨s, g⟩
  | some st => if st.closed then ⟨s, g⟩ else
    ⟨wakeAll g (num s name) (goS { s with sts := s.sts.set name.toNat (some (_root_.Go.Proofs.YtddchcekljndmaaGreat.Pi.closeS st)) } ⟨5, g, num s name, -1, -1, -1, false, false⟩) st.rcv,
     first (wakeAll g (num s name) (goS { s with sts := s.sts.set name.toNat (some (_root_.Go.Proofs.YtddchcekljndmaaGreat.Pi.closeS st)) } ⟨5, g, num s name, -1, -1, -1, false, false⟩) st.rcv) st.snd⟩
def panicS (s : Lm) (who : Int) : Lm := tellS { s with pk := true } (bareE 12 who)
def doF (s : Lm) (g : Int) (o : OpD) : Lm :=
  if o.kind = 1 then goS { s with cr := Cr.spL s.cr o.a } ⟨1, g, -1, -1, o.a, Cr.spV s.cr o.a, false, false⟩
  else if o.kind = 2 then goS (opensS s o.a o.b) ⟨2, g, s.md, -1, o.b, -1, false, false⟩
  else if o.kind = 7 then goS s ⟨9, g, -1, -1, o.a, -1, false, false⟩
  else if o.kind = 8 then goS s ⟨10, g, -1, -1, o.a, -1, false, false⟩
  else if o.kind = 9 then tellS { s with cr := Cr.chL s.cr g 0 2 0 } (bareE 11 g)
  else if o.kind = 3 then (if (aloneF s g ⟨true, o.a, o.b⟩).fine then (aloneF s g ⟨true, o.a, o.b⟩).s else panicS (aloneF s g ⟨true, o.a, o.b⟩).s g)
  else if o.kind = 4 then (aloneF s g ⟨false, o.a, 0⟩).s
  else if o.kind = 5 then (if (closesF s g o.a).who = -1 then (closesF s g o.a).s else panicS (closesF s g o.a).s (closesF s g o.a).who)
  else if o.kind = 6 then (if (chooseF s g o).fine then (chooseF s g o).s else panicS (chooseF s g o).s g)
  else s
def verd (s : Lm) : Int := if s.pk then 3 else if Cr.ovr s.cr ≠ 0 then Cr.ovr s.cr else if s.p.length = 0 then 4 else 0
def exitO : OpD := ⟨9, 0, 0, [], false⟩
/-- a goroutine's next operation -/
def opOf (s : Lm) (g : Int) : OpD := (((s.ps[(Cr.one0 (Cr.gt s.cr g)).p.toNat]?).getD [])[(Cr.one0 (Cr.gt s.cr g)).q.toNat]?).getD exitO
def whoN (s : Lm) : Int := Pk.ofx (nth s.p 0) (Cr.abl s.cr)
def stepF (s : Lm) : Lm :=
  if verd s ≠ 0 then s
  else if nth s.p 0 = -1 then tellS { s with p := s.p.tail } (bareE 13 (-1))
  else doF { s with p := s.p.tail } (whoN s) (opOf s (whoN s))
def newS (sc : Sh.Sc) : Lm := ⟨sc.ps, sc.pl, sc.dr, [⟨0, 0, 0⟩], List.replicate 8 none, List.replicate 8 (-1), 0, [], false⟩
def stepsF : Nat → Lm → Lm
  | 0, s => s
  | n + 1, s => stepsF n (stepF s)
end Lo
end Go.Proofs.YtddchcekljndmaaGreat
/- Package fork: Try, over this seat's program. -/
namespace Go.Proofs.YtddchcekljndmaaGreat
open Go.ChangeShapes Go.WideShapes Go.ChangeAt Go.RowKit
namespace Fk
open Ba Pe _root_.Go.Proofs.YtddchcekljndmaaGreat.Pi Rp

set_option maxRecDepth 100000 in
set_option maxHeartbeats 6400000 in
theorem ftry_false (ch val : Int) (oa : Option Addr) (bs : List (Option Nat)) (cp : Nat) (Fs : Nat → Nat → Prop) (sts : List (Option St)) (w : World) (h : Qs Pp w oa bs Fs sts) (hs : Sml sts) :
    Calls Tryz.prog 114 #[cv ⟨false, ch, val⟩, .slice oa bs.length cp] w fun r w' => r = .returned (.tuple #[gv (tryG sts ⟨false, ch, val⟩), .int .i64 (tryE sts ⟨false, ch, val⟩)]) ∧ Rz Pp w w' oa bs Fs (tryS sts ⟨false, ch, val⟩) := by
  have b1 := below_alloc w (.cells #[.bool false, .int .i64 ch, .int .i64 val] 92)
  have b2 := below_alloc (w.alloc (.cells #[.bool false, .int .i64 ch, .int .i64 val] 92)) (.cells #[.bool false, .bool false, .bool false, .int .i64 0, .int .i64 0, .int .i64 0, .int .i64 0] 160)
  have BB := hide (btr b1 b2)
  have X2 := hide (heap_below (heap_new w (.cells #[.bool false, .int .i64 ch, .int .i64 val] 92)) b2)
  have hz := heap_new (w.alloc (.cells #[.bool false, .int .i64 ch, .int .i64 val] 92)) (.cells #[.bool false, .bool false, .bool false, .int .i64 0, .int .i64 0, .int .i64 0, .int .i64 0] 160)
  rw [World.size_alloc] at hz
  have Z2 := hide hz
  have NM := hide (named_any oa bs ch cp _ (h.row.below BB.out))
  have H := hide h
  have hS2 : ((w.alloc (.cells #[.bool false, .int .i64 ch, .int .i64 val] 92)).alloc (.cells #[.bool false, .bool false, .bool false, .int .i64 0, .int .i64 0, .int .i64 0, .int .i64 0] 160)).heap.size = w.heap.size + 2 := by rw [World.size_alloc, World.size_alloc]
  have NZ : Hid (∀ i, ¬ Fs i (w.heap.size + 1)) := fun i e => by have := h.bd i _ e; omega
  have RR : Hid (∀ a, oa = some a → a.block < w.heap.size ∨ bs = []) := fun a e => by
    cases hb : bs with
    | nil => exact .inr rfl
    | cons o t => exact .inl (h.rl (i := 0) (o := o) (by rw [hb]; rfl) a e)
  clear b1 b2 hz
  unfold tryG tryE tryS cv
  rcases h.nm ch with ⟨e1, e2⟩ | ⟨B, st, e1, e2, h0, hl, hi, hi2, q⟩
  · rw [e2]
    simp only
    rw [e1] at NM
    simp only [pt, Option.map_none] at NM
    clear h e1 e2
    go_enter Tryz.func114, Tryz.ntmps114
    go_wp2_with fail
    generalize (w.alloc (.cells #[.bool false, .int .i64 ch, .int .i64 val] 92)).alloc (.cells #[.bool false, .bool false, .bool false, .int .i64 0, .int .i64 0, .int .i64 0, .int .i64 0] 160) = W2 at BB X2 Z2 NM hS2 ⊢
    refine NM.out.mono ?_
    rintro r w2 ⟨rfl, rfl⟩
    have x0 : w2.cell? ⟨w.heap.size, 0, none⟩ = some (.bool false) := cell_of X2.out 0
    have x2 : w2.cell? ⟨w.heap.size, 2, none⟩ = some (.int .i64 val) := cell_of X2.out 2
    go_wp2_with fail
    refine (recv_nil _).mono ?_
    rintro r w3 ⟨rfl, b3⟩
    have Z3 := hide (heap_below Z2.out b3)
    have B3 := hide (btr BB.out b3)
    clear b3
    have z0 : w3.cell? ⟨w.heap.size + 1, 0, none⟩ = some (.bool false) := cell_of Z3.out 0
    have zf0 := frozen_of Z3.out 0
    have z1 : w3.cell? ⟨w.heap.size + 1, 1, none⟩ = some (.bool false) := cell_of Z3.out 1
    have zf1 := frozen_of Z3.out 1
    have z2 : w3.cell? ⟨w.heap.size + 1, 2, none⟩ = some (.bool false) := cell_of Z3.out 2
    have zf2 := frozen_of Z3.out 2
    have z3 : w3.cell? ⟨w.heap.size + 1, 3, none⟩ = some (.int .i64 0) := cell_of Z3.out 3
    have zf3 := frozen_of Z3.out 3
    have z4 : w3.cell? ⟨w.heap.size + 1, 4, none⟩ = some (.int .i64 0) := cell_of Z3.out 4
    have zf4 := frozen_of Z3.out 4
    have z5 : w3.cell? ⟨w.heap.size + 1, 5, none⟩ = some (.int .i64 0) := cell_of Z3.out 5
    have zf5 := frozen_of Z3.out 5
    have z6 : w3.cell? ⟨w.heap.size + 1, 6, none⟩ = some (.int .i64 0) := cell_of Z3.out 6
    have zf6 := frozen_of Z3.out 6
    unfold gv gz
    go_wp2_with fail
    exact bodyPost_ret (results_row2 Tryz.results114 _ _ _ _ _ rfl rfl (loadVar_got (got_set Z3.out _ _ _ _ _ _ _) rfl)) rfl ⟨rfl, Rz.set7 frP ⟨Fs, NwA.refl _ _, H.out.below frP B3.out, KF.of B3.out, NZ.out⟩ (Nat.le_succ _) RR.out _ _ _ _ _ _ _⟩
  · rw [e2]
    simp only [Bool.false_eq_true, if_false]
    rw [e1] at NM
    simp only [pt, Option.map_some] at NM
    have hb1 := (hs _ _ hi2).1
    have hb2 := (hs _ _ hi2).2
    have HI := hide hi
    have P2 := hide (q.below BB.out)
    clear h e1 e2 q hi hi2 h0 hl
    have CL := hide (recv_any B _ st _ P2.out hb1 hb2)
    generalize recvG st = gg at CL ⊢
    skip
    obtain ⟨rd, ok, wk, v, ⟨mg, mc, mv⟩⟩ := gg
    unfold gv at CL ⊢
    go_enter Tryz.func114, Tryz.ntmps114
    go_wp2_with fail
    generalize (w.alloc (.cells #[.bool false, .int .i64 ch, .int .i64 val] 92)).alloc (.cells #[.bool false, .bool false, .bool false, .int .i64 0, .int .i64 0, .int .i64 0, .int .i64 0] 160) = W2 at BB X2 Z2 NM hS2 P2 CL ⊢
    refine NM.out.mono ?_
    rintro r w2 ⟨rfl, rfl⟩
    have x0 : w2.cell? ⟨w.heap.size, 0, none⟩ = some (.bool false) := cell_of X2.out 0
    have x2 : w2.cell? ⟨w.heap.size, 2, none⟩ = some (.int .i64 val) := cell_of X2.out 2
    go_wp2_with fail
    refine CL.out.mono ?_
    rintro r w3 ⟨rfl, k3, F3, n3, p3⟩
    have Z3 := hide (k3.heap Z2.out (NZ.out _))
    have R3 := hide (Rz.step frP H.out BB.out HI.out k3 n3 p3)
    have NZ3 : Hid (∃ Fs', NwA Fs' Fs w ∧ Qs Pp w3 oa bs Fs' (sts.set ch.toNat (some (recvS st))) ∧ KF (All Fs) w w3 ∧ ∀ i, ¬ Fs' i (w.heap.size + 1)) := by
      have ha := H.out.below frP BB.out
      refine ⟨up Fs ch.toNat F3, ?_, ha.step frP HI.out k3 n3 p3 (ha.rl HI.out), (KF.of (F := All Fs) BB.out).trans k3 (fun x hx => .inl ⟨_, hx⟩), ?_⟩
      · intro j x hx
        by_cases e : j = ch.toNat
        · subst e
          rw [up_same] at hx
          rcases n3 x hx with z | z
          · exact .inl ⟨_, z⟩
          · exact .inr (by omega)
        · rw [up_other _ _ _ _ e] at hx
          exact .inl ⟨j, hx⟩
      · intro j hx
        by_cases e : j = ch.toNat
        · subst e
          rw [up_same] at hx
          rcases n3 _ hx with z | z
          · exact NZ.out _ z
          · omega
        · rw [up_other _ _ _ _ e] at hx
          exact NZ.out _ hx
    clear k3 n3 p3 R3
    have z0 : w3.cell? ⟨w.heap.size + 1, 0, none⟩ = some (.bool false) := cell_of Z3.out 0
    have zf0 := frozen_of Z3.out 0
    have z1 : w3.cell? ⟨w.heap.size + 1, 1, none⟩ = some (.bool false) := cell_of Z3.out 1
    have zf1 := frozen_of Z3.out 1
    have z2 : w3.cell? ⟨w.heap.size + 1, 2, none⟩ = some (.bool false) := cell_of Z3.out 2
    have zf2 := frozen_of Z3.out 2
    have z3 : w3.cell? ⟨w.heap.size + 1, 3, none⟩ = some (.int .i64 0) := cell_of Z3.out 3
    have zf3 := frozen_of Z3.out 3
    have z4 : w3.cell? ⟨w.heap.size + 1, 4, none⟩ = some (.int .i64 0) := cell_of Z3.out 4
    have zf4 := frozen_of Z3.out 4
    have z5 : w3.cell? ⟨w.heap.size + 1, 5, none⟩ = some (.int .i64 0) := cell_of Z3.out 5
    have zf5 := frozen_of Z3.out 5
    have z6 : w3.cell? ⟨w.heap.size + 1, 6, none⟩ = some (.int .i64 0) := cell_of Z3.out 6
    have zf6 := frozen_of Z3.out 6
    go_wp2_with fail
    exact bodyPost_ret (results_row2 Tryz.results114 _ _ _ _ _ rfl rfl (loadVar_got (got_set Z3.out _ _ _ _ _ _ _) rfl)) rfl ⟨rfl, Rz.set7 frP NZ3.out (Nat.le_succ _) RR.out _ _ _ _ _ _ _⟩
set_option maxRecDepth 100000 in
set_option maxHeartbeats 6400000 in
theorem ftry_true (ch val : Int) (oa : Option Addr) (bs : List (Option Nat)) (cp : Nat) (Fs : Nat → Nat → Prop) (sts : List (Option St)) (w : World) (h : Qs Pp w oa bs Fs sts) (hs : Sml sts) :
    Calls Tryz.prog 114 #[cv ⟨true, ch, val⟩, .slice oa bs.length cp] w fun r w' => r = .returned (.tuple #[gv (tryG sts ⟨true, ch, val⟩), .int .i64 (tryE sts ⟨true, ch, val⟩)]) ∧ Rz Pp w w' oa bs Fs (tryS sts ⟨true, ch, val⟩) := by
  have b1 := below_alloc w (.cells #[.bool true, .int .i64 ch, .int .i64 val] 92)
  have b2 := below_alloc (w.alloc (.cells #[.bool true, .int .i64 ch, .int .i64 val] 92)) (.cells #[.bool false, .bool false, .bool false, .int .i64 0, .int .i64 0, .int .i64 0, .int .i64 0] 160)
  have BB := hide (btr b1 b2)
  have X2 := hide (heap_below (heap_new w (.cells #[.bool true, .int .i64 ch, .int .i64 val] 92)) b2)
  have hz := heap_new (w.alloc (.cells #[.bool true, .int .i64 ch, .int .i64 val] 92)) (.cells #[.bool false, .bool false, .bool false, .int .i64 0, .int .i64 0, .int .i64 0, .int .i64 0] 160)
  rw [World.size_alloc] at hz
  have Z2 := hide hz
  have NM := hide (named_any oa bs ch cp _ (h.row.below BB.out))
  have H := hide h
  have hS2 : ((w.alloc (.cells #[.bool true, .int .i64 ch, .int .i64 val] 92)).alloc (.cells #[.bool false, .bool false, .bool false, .int .i64 0, .int .i64 0, .int .i64 0, .int .i64 0] 160)).heap.size = w.heap.size + 2 := by rw [World.size_alloc, World.size_alloc]
  have NZ : Hid (∀ i, ¬ Fs i (w.heap.size + 1)) := fun i e => by have := h.bd i _ e; omega
  have RR : Hid (∀ a, oa = some a → a.block < w.heap.size ∨ bs = []) := fun a e => by
    cases hb : bs with
    | nil => exact .inr rfl
    | cons o t => exact .inl (h.rl (i := 0) (o := o) (by rw [hb]; rfl) a e)
  clear b1 b2 hz
  unfold tryG tryE tryS cv
  rcases h.nm ch with ⟨e1, e2⟩ | ⟨B, st, e1, e2, h0, hl, hi, hi2, q⟩
  · rw [e2]
    simp only
    rw [e1] at NM
    simp only [pt, Option.map_none] at NM
    clear h e1 e2
    go_enter Tryz.func114, Tryz.ntmps114
    go_wp2_with fail
    generalize (w.alloc (.cells #[.bool true, .int .i64 ch, .int .i64 val] 92)).alloc (.cells #[.bool false, .bool false, .bool false, .int .i64 0, .int .i64 0, .int .i64 0, .int .i64 0] 160) = W2 at BB X2 Z2 NM hS2 ⊢
    refine NM.out.mono ?_
    rintro r w2 ⟨rfl, rfl⟩
    have x0 : w2.cell? ⟨w.heap.size, 0, none⟩ = some (.bool true) := cell_of X2.out 0
    have x2 : w2.cell? ⟨w.heap.size, 2, none⟩ = some (.int .i64 val) := cell_of X2.out 2
    go_wp2_with fail
    refine (send_nil val _).mono ?_
    rintro r w3 ⟨rfl, b3⟩
    have Z3 := hide (heap_below Z2.out b3)
    have B3 := hide (btr BB.out b3)
    clear b3
    have z0 : w3.cell? ⟨w.heap.size + 1, 0, none⟩ = some (.bool false) := cell_of Z3.out 0
    have zf0 := frozen_of Z3.out 0
    have z1 : w3.cell? ⟨w.heap.size + 1, 1, none⟩ = some (.bool false) := cell_of Z3.out 1
    have zf1 := frozen_of Z3.out 1
    have z2 : w3.cell? ⟨w.heap.size + 1, 2, none⟩ = some (.bool false) := cell_of Z3.out 2
    have zf2 := frozen_of Z3.out 2
    have z3 : w3.cell? ⟨w.heap.size + 1, 3, none⟩ = some (.int .i64 0) := cell_of Z3.out 3
    have zf3 := frozen_of Z3.out 3
    have z4 : w3.cell? ⟨w.heap.size + 1, 4, none⟩ = some (.int .i64 0) := cell_of Z3.out 4
    have zf4 := frozen_of Z3.out 4
    have z5 : w3.cell? ⟨w.heap.size + 1, 5, none⟩ = some (.int .i64 0) := cell_of Z3.out 5
    have zf5 := frozen_of Z3.out 5
    have z6 : w3.cell? ⟨w.heap.size + 1, 6, none⟩ = some (.int .i64 0) := cell_of Z3.out 6
    have zf6 := frozen_of Z3.out 6
    unfold gv gz
    go_wp2_with fail
    exact bodyPost_ret (results_row2 Tryz.results114 _ _ _ _ _ rfl rfl (loadVar_got (got_set Z3.out _ _ _ _ _ _ _) rfl)) rfl ⟨rfl, Rz.set7 frP ⟨Fs, NwA.refl _ _, H.out.below frP B3.out, KF.of B3.out, NZ.out⟩ (Nat.le_succ _) RR.out _ _ _ _ _ _ _⟩
  · rw [e2]
    simp only [if_true]
    rw [e1] at NM
    simp only [pt, Option.map_some] at NM
    have hb1 := (hs _ _ hi2).1
    have hb2 := (hs _ _ hi2).2
    have HI := hide hi
    have P2 := hide (q.below BB.out)
    clear h e1 e2 q hi hi2 h0 hl
    have CL := hide (send_any B _ st val _ P2.out hb1 hb2)
    generalize sendG st = gg at CL ⊢
    generalize sendE st = ee at CL ⊢
    obtain ⟨rd, ok, wk, v, ⟨mg, mc, mv⟩⟩ := gg
    unfold gv at CL ⊢
    go_enter Tryz.func114, Tryz.ntmps114
    go_wp2_with fail
    generalize (w.alloc (.cells #[.bool true, .int .i64 ch, .int .i64 val] 92)).alloc (.cells #[.bool false, .bool false, .bool false, .int .i64 0, .int .i64 0, .int .i64 0, .int .i64 0] 160) = W2 at BB X2 Z2 NM hS2 P2 CL ⊢
    refine NM.out.mono ?_
    rintro r w2 ⟨rfl, rfl⟩
    have x0 : w2.cell? ⟨w.heap.size, 0, none⟩ = some (.bool true) := cell_of X2.out 0
    have x2 : w2.cell? ⟨w.heap.size, 2, none⟩ = some (.int .i64 val) := cell_of X2.out 2
    go_wp2_with fail
    refine CL.out.mono ?_
    rintro r w3 ⟨rfl, k3, F3, n3, p3⟩
    have Z3 := hide (k3.heap Z2.out (NZ.out _))
    have R3 := hide (Rz.step frP H.out BB.out HI.out k3 n3 p3)
    have NZ3 : Hid (∃ Fs', NwA Fs' Fs w ∧ Qs Pp w3 oa bs Fs' (sts.set ch.toNat (some (sendS st val))) ∧ KF (All Fs) w w3 ∧ ∀ i, ¬ Fs' i (w.heap.size + 1)) := by
      have ha := H.out.below frP BB.out
      refine ⟨up Fs ch.toNat F3, ?_, ha.step frP HI.out k3 n3 p3 (ha.rl HI.out), (KF.of (F := All Fs) BB.out).trans k3 (fun x hx => .inl ⟨_, hx⟩), ?_⟩
      · intro j x hx
        by_cases e : j = ch.toNat
        · subst e
          rw [up_same] at hx
          rcases n3 x hx with z | z
          · exact .inl ⟨_, z⟩
          · exact .inr (by omega)
        · rw [up_other _ _ _ _ e] at hx
          exact .inl ⟨j, hx⟩
      · intro j hx
        by_cases e : j = ch.toNat
        · subst e
          rw [up_same] at hx
          rcases n3 _ hx with z | z
          · exact NZ.out _ z
          · omega
        · rw [up_other _ _ _ _ e] at hx
          exact NZ.out _ hx
    clear k3 n3 p3 R3
    have z0 : w3.cell? ⟨w.heap.size + 1, 0, none⟩ = some (.bool false) := cell_of Z3.out 0
    have zf0 := frozen_of Z3.out 0
    have z1 : w3.cell? ⟨w.heap.size + 1, 1, none⟩ = some (.bool false) := cell_of Z3.out 1
    have zf1 := frozen_of Z3.out 1
    have z2 : w3.cell? ⟨w.heap.size + 1, 2, none⟩ = some (.bool false) := cell_of Z3.out 2
    have zf2 := frozen_of Z3.out 2
    have z3 : w3.cell? ⟨w.heap.size + 1, 3, none⟩ = some (.int .i64 0) := cell_of Z3.out 3
    have zf3 := frozen_of Z3.out 3
    have z4 : w3.cell? ⟨w.heap.size + 1, 4, none⟩ = some (.int .i64 0) := cell_of Z3.out 4
    have zf4 := frozen_of Z3.out 4
    have z5 : w3.cell? ⟨w.heap.size + 1, 5, none⟩ = some (.int .i64 0) := cell_of Z3.out 5
    have zf5 := frozen_of Z3.out 5
    have z6 : w3.cell? ⟨w.heap.size + 1, 6, none⟩ = some (.int .i64 0) := cell_of Z3.out 6
    have zf6 := frozen_of Z3.out 6
    go_wp2_with fail
    exact bodyPost_ret (results_row2 Tryz.results114 _ _ _ _ _ rfl rfl (loadVar_got (got_set Z3.out _ _ _ _ _ _ _) rfl)) rfl ⟨rfl, Rz.set7 frP NZ3.out (Nat.le_succ _) RR.out _ _ _ _ _ _ _⟩
theorem ftry_any (c : Ca) (oa : Option Addr) (bs : List (Option Nat)) (cp : Nat) (Fs : Nat → Nat → Prop) (sts : List (Option St)) (w : World) (h : Qs Pp w oa bs Fs sts) (hs : Sml sts) :
    Calls Tryz.prog 114 #[cv c, .slice oa bs.length cp] w fun r w' => r = .returned (.tuple #[gv (tryG sts c), .int .i64 (tryE sts c)]) ∧ Rz Pp w w' oa bs Fs (tryS sts c) := by
  obtain ⟨sd, ch, val⟩ := c
  cases sd
  · exact ftry_false ch val oa bs cp Fs sts w h hs
  · exact ftry_true ch val oa bs cp Fs sts w h hs
end Fk
end Go.Proofs.YtddchcekljndmaaGreat
/- A loom in memory: its parts, each of a colour of its own, and what becomes of it when one part changes. -/
namespace Go.Proofs.YtddchcekljndmaaGreat
open Go.ChangeShapes Go.WideShapes Go.ChangeAt Go.RowKit
namespace Lo
open Ba

/-- only blocks of colours in K have changed -/
structure Ch (K : Nat → Prop) (col col' : Nat → Nat) (w w' : World) : Prop where
  os : w'.os = w.os
  tape : w'.tape = w.tape
  output : w'.output = w.output
  size : w.heap.size ≤ w'.heap.size
  block : ∀ x, x < w.heap.size → ¬ K (col x) → w'.heap[x]? = w.heap[x]?
  old : ∀ x, x < w.heap.size → col' x = col x
/-- only blocks of colours below 6 have changed -/
structure Tr (col col' : Nat → Nat) (w w' : World) : Prop where
  os : w'.os = w.os
  tape : w'.tape = w.tape
  output : w'.output = w.output
  size : w.heap.size ≤ w'.heap.size
  block : ∀ x, x < w.heap.size → 6 ≤ col x → w'.heap[x]? = w.heap[x]?
  old : ∀ x, x < w.heap.size → col' x = col x
theorem Ch.tr {K : Nat → Prop} {col col' : Nat → Nat} {w w' : World} (h : Ch K col col' w w') (hk : ∀ c, K c → c < 6) : Tr col col' w w' :=
  ⟨h.os, h.tape, h.output, h.size, fun x hx hc => h.block x hx (fun e => by have := hk _ e; omega), h.old⟩
theorem Tr.refl (col : Nat → Nat) (w : World) : Tr col col w w := ⟨rfl, rfl, rfl, Nat.le_refl _, fun _ _ _ => rfl, fun _ _ => rfl⟩
theorem Tr.trans {c1 c2 c3 : Nat → Nat} {a b c : World} (h : Tr c1 c2 a b) (k : Tr c2 c3 b c) : Tr c1 c3 a c :=
  ⟨k.os.trans h.os, k.tape.trans h.tape, k.output.trans h.output, Nat.le_trans h.size k.size,
    fun x hx hc => (k.block x (Nat.lt_of_lt_of_le hx h.size) (by rw [h.old x hx]; exact hc)).trans (h.block x hx hc),
    fun x hx => (k.old x (Nat.lt_of_lt_of_le hx h.size)).trans (h.old x hx)⟩
theorem ext_ex (w : World) (col : Nat → Nat) (F : Nat → Prop) (k : Nat) : ∃ col' : Nat → Nat, (∀ x, x < w.heap.size → col' x = col x) ∧ (∀ x, w.heap.size ≤ x → F x → col' x = k) ∧ (∀ x, w.heap.size ≤ x → ¬ F x → col' x = 7) := by
  classical
  refine ⟨fun x => if x < w.heap.size then col x else if F x then k else 7, fun x hx => by simp [hx], fun x hx hf => ?_, fun x hx hf => ?_⟩
  · simp [Nat.not_lt.2 hx, hf]
  · simp [Nat.not_lt.2 hx, hf]

/-- the cells of the trace -/
def ec (l : List Ev) : List Value := l.flatMap fun e => (En.evc e).toList
theorem ec_app (l m : List Ev) : ec (l ++ m) = ec l ++ ec m := by simp [ec]
theorem ec_one (l : List Ev) : ∀ u ∈ ec l, u.oneCell' = true := by
  intro u hu
  simp only [ec, List.mem_flatMap] at hu
  obtain ⟨e, _, hu⟩ := hu
  simp [En.evc] at hu
  rcases hu with rfl | rfl | rfl | rfl | rfl | rfl | rfl | rfl <;> rfl
theorem ec_len (l : List Ev) : (ec l).length = l.length * 8 := by
  induction l with
  | nil => rfl
  | cons e l ih => simp [ec, En.evc] at ih ⊢; omega
/-- the cells of a loom -/
def lcs (pa : Option Addr) (n pc C B X : Nat) (nm : List Int) (md : Int) (ta : Option Addr) (tn tc : Nat) (pk : Bool) : Array Value :=
  #[.slice pa n pc, .pointer (some ⟨C, 0, none⟩), .pointer (some ⟨B, 0, none⟩), .slice (some ⟨X, 0, none⟩) 8 8, .int .i64 (nth nm 0), .int .i64 (nth nm 1), .int .i64 (nth nm 2), .int .i64 (nth nm 3), .int .i64 (nth nm 4), .int .i64 (nth nm 5), .int .i64 (nth nm 6), .int .i64 (nth nm 7), .int .i64 md, .slice ta tn tc, .bool pk]

structure LX (w : World) (col : Nat → Nat) (L N C B X : Nat) (FB : Nat → Prop) (pa : Option Addr) (pc : Nat) (bs : List (Option Nat)) (Fs : Nat → Nat → Prop) (ta : Option Addr) (tc : Nat) (s : Lm) : Prop where
  hp : w.heap[L]? = some (.cells (lcs pa s.ps.length pc C B X s.nm s.md ta s.tr.length tc s.pk) 74 (0, 0))
  nml : s.nm.length = 8
  ps : ∀ w', (∀ x, x < w.heap.size → col x = 6 → w'.heap[x]? = w.heap[x]?) → Sh.PAt w' pa s.ps
  cu : Lk.Cu w N C s.p s.d
  nc : N ≤ C
  cr : Cr.PC w B FB s.cr
  rw : w.heap[X]? = some (.cells (bs.map Pe.pt).toArray 150 (0, 0))
  qs : Fk.Qs _root_.Go.Proofs.YtddchcekljndmaaGreat.Pi.Pp w (some ⟨X, 0, none⟩) bs Fs s.sts
  bl : bs.length = 8
  tr : w.ownsRow 0 66 8 (.slice ta s.tr.length tc) s.tr.length (ec s.tr)
  c0 : col L = 0
  c1 : ∀ x, N ≤ x → x ≤ C → col x = 1
  c2 : ∀ x, FB x → col x = 2
  c3 : col X = 3
  c4 : ∀ i x, Fs i x → col x = 4
  c5 : ∀ g, (Value.slice ta s.tr.length tc).ownBlock = some g → col g = 5
/-- the loom in block L -/
def LW (w : World) (col : Nat → Nat) (L : Nat) (s : Lm) : Prop := ∃ N C B X FB pa pc bs Fs ta tc, LX w col L N C B X FB pa pc bs Fs ta tc s
section
variable {w w' : World} {col col' : Nat → Nat} {L N C B X : Nat} {FB : Nat → Prop} {pa : Option Addr} {pc : Nat} {bs : List (Option Nat)} {Fs : Nat → Nat → Prop} {ta : Option Addr} {tc : Nat} {s : Lm} {K : Nat → Prop}
theorem LX.lw (h : LX w col L N C B X FB pa pc bs Fs ta tc s) : LW w col L s := ⟨N, C, B, X, FB, pa, pc, bs, Fs, ta, tc, h⟩
theorem LX.lt (h : LX w col L N C B X FB pa pc bs Fs ta tc s) : L < w.heap.size := heap_lt h.hp
theorem LX.keepHp (h : LX w col L N C B X FB pa pc bs Fs ta tc s) (c : Ch K col col' w w') (hk : ¬ K 0) : w'.heap[L]? = some (.cells (lcs pa s.ps.length pc C B X s.nm s.md ta s.tr.length tc s.pk) 74 (0, 0)) :=
  (c.block L h.lt (by rw [h.c0]; exact hk)).trans h.hp
theorem LX.keepPs (h : LX w col L N C B X FB pa pc bs Fs ta tc s) (c : Ch K col col' w w') (hk : ¬ K 6) : ∀ w2, (∀ x, x < w'.heap.size → col' x = 6 → w2.heap[x]? = w'.heap[x]?) → Sh.PAt w2 pa s.ps :=
  fun w2 h2 => h.ps w2 fun x hx hc => (h2 x (Nat.lt_of_lt_of_le hx c.size) (by rw [c.old x hx]; exact hc)).trans (c.block x hx (by rw [hc]; exact hk))
theorem LX.keepCu (h : LX w col L N C B X FB pa pc bs Fs ta tc s) (c : Ch K col col' w w') (hk : ¬ K 1) : Lk.Cu w' N C s.p s.d :=
  h.cu.keep (fun x h1 h2 => c.block x (Nat.lt_of_le_of_lt h2 h.cu.lt) (by rw [h.c1 x h1 h2]; exact hk)) h.nc
theorem LX.keepCr (h : LX w col L N C B X FB pa pc bs Fs ta tc s) (c : Ch K col col' w w') (hk : ¬ K 2) : Cr.PC w' B FB s.cr := by
  obtain ⟨oa, cc, hw⟩ := h.cr
  exact ⟨oa, cc, hw.sm fun x hx => c.block x (hw.bd x hx) (by rw [h.c2 x hx]; exact hk)⟩
theorem LX.keepRw (h : LX w col L N C B X FB pa pc bs Fs ta tc s) (c : Ch K col col' w w') (hk : ¬ K 3) : w'.heap[X]? = some (.cells (bs.map Pe.pt).toArray 150 (0, 0)) :=
  (c.block X (heap_lt h.rw) (by rw [h.c3]; exact hk)).trans h.rw
theorem LX.keepQs (h : LX w col L N C B X FB pa pc bs Fs ta tc s) (c : Ch K col col' w w') (hk : ¬ K 4) (h3 : ¬ K 3) : Fk.Qs _root_.Go.Proofs.YtddchcekljndmaaGreat.Pi.Pp w' (some ⟨X, 0, none⟩) bs Fs s.sts :=
  h.qs.keep Fk.frP (fun i x hx => c.block x (h.qs.bd i x hx) (by rw [h.c4 i x hx]; exact hk)) (fun a e hl => by
    cases e
    exact c.block X hl (by rw [h.c3]; exact h3))
theorem LX.keepTr (h : LX w col L N C B X FB pa pc bs Fs ta tc s) (c : Ch K col col' w w') (hk : ¬ K 5) : w'.ownsRow 0 66 8 (.slice ta s.tr.length tc) s.tr.length (ec s.tr) :=
  Cr.own_keep h.tr fun g e => by
    obtain ⟨_, cur, hc⟩ := Cr.own_blk h.tr g e
    exact c.block g (heap_lt hc) (by rw [h.c5 g e]; exact hk)
theorem LX.k0 (h : LX w col L N C B X FB pa pc bs Fs ta tc s) (c : Ch K col col' w w') : col' L = 0 := (c.old L h.lt).trans h.c0
theorem LX.k1 (h : LX w col L N C B X FB pa pc bs Fs ta tc s) (c : Ch K col col' w w') : ∀ x, N ≤ x → x ≤ C → col' x = 1 := fun x h1 h2 => (c.old x (Nat.lt_of_le_of_lt h2 h.cu.lt)).trans (h.c1 x h1 h2)
theorem LX.k2 (h : LX w col L N C B X FB pa pc bs Fs ta tc s) (c : Ch K col col' w w') : ∀ x, FB x → col' x = 2 := fun x hx => (c.old x (h.cr.bd x hx)).trans (h.c2 x hx)
theorem LX.k3 (h : LX w col L N C B X FB pa pc bs Fs ta tc s) (c : Ch K col col' w w') : col' X = 3 := (c.old X (heap_lt h.rw)).trans h.c3
theorem LX.k4 (h : LX w col L N C B X FB pa pc bs Fs ta tc s) (c : Ch K col col' w w') : ∀ i x, Fs i x → col' x = 4 := fun i x hx => (c.old x (h.qs.bd i x hx)).trans (h.c4 i x hx)
theorem LX.k5 (h : LX w col L N C B X FB pa pc bs Fs ta tc s) (c : Ch K col col' w w') : ∀ g, (Value.slice ta s.tr.length tc).ownBlock = some g → col' g = 5 := fun g e => by
  obtain ⟨_, cur, hc⟩ := Cr.own_blk h.tr g e
  exact (c.old g (heap_lt hc)).trans (h.c5 g e)
/-- what is foreign has changed -/
theorem LX.keep (h : LX w col L N C B X FB pa pc bs Fs ta tc s) (c : Ch (fun c => c = 7) col col' w w') : LX w' col' L N C B X FB pa pc bs Fs ta tc s :=
  ⟨h.keepHp c (by simp), h.nml, h.keepPs c (by simp), h.keepCu c (by simp), h.nc, h.keepCr c (by simp), h.keepRw c (by simp), h.keepQs c (by simp) (by simp), h.bl, h.keepTr c (by simp), h.k0 c, h.k1 c, h.k2 c, h.k3 c, h.k4 c, h.k5 c⟩
theorem ch_below (K : Nat → Prop) (hb : Below w.heap.size w w') (ho : ∀ x, x < w.heap.size → col' x = col x) : Ch K col col' w w' := ⟨hb.os, hb.tape, hb.output, hb.size, fun x hx _ => hb.block x hx, ho⟩
theorem LX.below (h : LX w col L N C B X FB pa pc bs Fs ta tc s) (hb : Below w.heap.size w w') : ∃ col', LX w' col' L N C B X FB pa pc bs Fs ta tc s ∧ Tr col col' w w' ∧ ∀ x, w.heap.size ≤ x → col' x = 7 := by
  obtain ⟨col', o, _, n⟩ := ext_ex w col (fun _ => False) 7
  exact ⟨col', h.keep (ch_below _ hb o), (ch_below (fun _ => False) hb o).tr (fun _ e => e.elim), fun x hx => n x hx (fun h => h)⟩
/-- the crew has changed -/
theorem LX.crew {l : List Mb} (h : LX w col L N C B X FB pa pc bs Fs ta tc s) (p : Cr.Po 108 114 w w' B FB l) : ∃ FB' col', LX w' col' L N C B X FB' pa pc bs Fs ta tc { s with cr := l } ∧ Tr col col' w w' := by
  obtain ⟨F', q, kf, nw⟩ := p
  obtain ⟨col', o, n, _⟩ := ext_ex w col F' 2
  have c : Ch (fun c => c = 2) col col' w w' := ⟨kf.os, kf.tape, kf.output, kf.size, fun x hx hc => kf.block x hx (fun e => hc (h.c2 x e)), o⟩
  refine ⟨F', col', ⟨h.keepHp c (by simp), h.nml, h.keepPs c (by simp), h.keepCu c (by simp), h.nc, q, h.keepRw c (by simp), h.keepQs c (by simp) (by simp), h.bl, h.keepTr c (by simp), h.k0 c, h.k1 c, fun x hx => ?_, h.k3 c, h.k4 c, h.k5 c⟩, c.tr (fun _ (e : _ = _) => by omega)⟩
  rcases Nat.lt_or_ge x w.heap.size with e | e
  · rcases nw x hx with z | z
    · exact h.k2 c x z
    · omega
  · exact n x e hx
/-- the channels have changed -/
theorem LX.pipes {sts : List (Option St)} (h : LX w col L N C B X FB pa pc bs Fs ta tc s) (p : Fk.Rz _root_.Go.Proofs.YtddchcekljndmaaGreat.Pi.Pp w w' (some ⟨X, 0, none⟩) bs Fs sts) : ∃ Fs' col', LX w' col' L N C B X FB pa pc bs Fs' ta tc { s with sts := sts } ∧ Tr col col' w w' := by
  obtain ⟨Fs', nw, q, kf⟩ := p
  obtain ⟨col', o, n, _⟩ := ext_ex w col (Fk.All Fs') 4
  have c : Ch (fun c => c = 4) col col' w w' := ⟨kf.os, kf.tape, kf.output, kf.size, fun x hx hc => kf.block x hx (fun e => by
    obtain ⟨i, e⟩ := e
    exact hc (h.c4 i x e)), o⟩
  refine ⟨Fs', col', ⟨h.keepHp c (by simp), h.nml, h.keepPs c (by simp), h.keepCu c (by simp), h.nc, h.keepCr c (by simp), h.keepRw c (by simp), q, h.bl, h.keepTr c (by simp), h.k0 c, h.k1 c, h.k2 c, h.k3 c, fun i x hx => ?_, h.k5 c⟩, c.tr (fun _ (e : _ = _) => by omega)⟩
  rcases Nat.lt_or_ge x w.heap.size with e | e
  · rcases nw i x hx with z | z
    · obtain ⟨j, z⟩ := z
      exact h.k4 c j x z
    · omega
  · exact n x e ⟨i, hx⟩
/-- the cursor has changed -/
theorem LX.cursor {p d : List Int} (h : LX w col L N C B X FB pa pc bs Fs ta tc s) (q : Lk.Cu w' N C p d) (kb : KB C w w') : ∃ col', LX w' col' L N C B X FB pa pc bs Fs ta tc { s with p := p, d := d } ∧ Tr col col' w w' := by
  obtain ⟨col', o, _, _⟩ := ext_ex w col (fun _ => False) 7
  have c : Ch (fun c => c = 1) col col' w w' := ⟨kb.os, kb.tape, kb.output, kb.size, fun x hx hc => kb.block x hx (fun e => hc (by rw [e]; exact h.c1 C h.nc (Nat.le_refl _))), o⟩
  exact ⟨col', ⟨h.keepHp c (by simp), h.nml, h.keepPs c (by simp), q, h.nc, h.keepCr c (by simp), h.keepRw c (by simp), h.keepQs c (by simp) (by simp), h.bl, h.keepTr c (by simp), h.k0 c, h.k1 c, h.k2 c, h.k3 c, h.k4 c, h.k5 c⟩, c.tr (fun _ (e : _ = _) => by omega)⟩
/-- a field of the loom's own has changed -/
theorem LX.self {s' : Lm} {i : Nat} {v : Value} (h : LX w col L N C B X FB pa pc bs Fs ta tc s) (hs : s' = { s with nm := s'.nm, md := s'.md, pk := s'.pk }) (hl : s'.nm.length = 8) (e : (lcs pa s.ps.length pc C B X s.nm s.md ta s.tr.length tc s.pk).setIfInBounds i v = lcs pa s.ps.length pc C B X s'.nm s'.md ta s.tr.length tc s'.pk) :
    LX (w.setCell ⟨L, i, none⟩ v) col L N C B X FB pa pc bs Fs ta tc s' ∧ Tr col col w (w.setCell ⟨L, i, none⟩ v) := by
  have kb := (KB.refl L w).setCell i v
  have c : Ch (fun c => c = 0) col col w (w.setCell ⟨L, i, none⟩ v) := ⟨kb.os, kb.tape, kb.output, kb.size, fun x hx hc => kb.block x hx (fun e => hc (by rw [e]; exact h.c0)), fun _ _ => rfl⟩
  refine ⟨?_, c.tr (fun _ (e : _ = _) => by omega)⟩
  rw [hs]
  refine ⟨?_, hl, h.keepPs c (by simp), h.keepCu c (by simp), h.nc, h.keepCr c (by simp), h.keepRw c (by simp), h.keepQs c (by simp) (by simp), h.bl, h.keepTr c (by simp), h.k0 c, h.k1 c, h.k2 c, h.k3 c, h.k4 c, h.k5 c⟩
  rw [Ba.heap_setCell_same h.hp, e]
/-- the channels have changed, behind some new blocks -/
theorem LX.pipes2 {u : World} {sts : List (Option St)} (h : LX w col L N C B X FB pa pc bs Fs ta tc s) (hb : Below w.heap.size w u) (p : Fk.Rz _root_.Go.Proofs.YtddchcekljndmaaGreat.Pi.Pp u w' (some ⟨X, 0, none⟩) bs Fs sts) :
    ∃ Fs' col', LX w' col' L N C B X FB pa pc bs Fs' ta tc { s with sts := sts } ∧ Tr col col' w w' ∧ ∀ x, w.heap.size ≤ x → x < u.heap.size → col' x = 7 ∧ w'.heap[x]? = u.heap[x]? := by
  obtain ⟨col1, h1, t1, n1⟩ := h.below hb
  obtain ⟨Fs', col', h2, t2⟩ := h1.pipes p
  exact ⟨Fs', col', h2, t1.trans t2, fun x h1 h2 => ⟨(t2.old x h2).trans (n1 x h1), t2.block x h2 (by rw [n1 x h1]; omega)⟩⟩
/-- the crew has changed, behind some new blocks -/
theorem LX.crew2 {u : World} {l : List Mb} (h : LX w col L N C B X FB pa pc bs Fs ta tc s) (hb : Below w.heap.size w u) (p : Cr.Po 108 114 u w' B FB l) :
    ∃ FB' col', LX w' col' L N C B X FB' pa pc bs Fs ta tc { s with cr := l } ∧ Tr col col' w w' ∧ ∀ x, w.heap.size ≤ x → x < u.heap.size → col' x = 7 ∧ w'.heap[x]? = u.heap[x]? := by
  obtain ⟨col1, h1, t1, n1⟩ := h.below hb
  obtain ⟨FB', col', h2, t2⟩ := h1.crew p
  exact ⟨FB', col', h2, t1.trans t2, fun x h1 h2 => ⟨(t2.old x h2).trans (n1 x h1), t2.block x h2 (by rw [n1 x h1]; omega)⟩⟩
/-- a cell of a block that is no part of the loom is laid -/
theorem LX.temp {z i : Nat} {v : Value} (h : LX w col L N C B X FB pa pc bs Fs ta tc s) (hz : col z = 7) : LX (w.setCell ⟨z, i, none⟩ v) col L N C B X FB pa pc bs Fs ta tc s := by
  have kb := (KB.refl z w).setCell i v
  exact h.keep ⟨kb.os, kb.tape, kb.output, kb.size, fun x hx hc => kb.block x hx (fun e => hc (by rw [e]; exact hz)), fun _ _ => rfl⟩
theorem LX.drew (h : LX w col L N C B X FB pa pc bs Fs ta tc s) : LX w.drew col L N C B X FB pa pc bs Fs ta tc s := h.keep (ch_below _ (bdrew1 w) (fun _ _ => rfl))
end
theorem Tr.drew {col col' : Nat → Nat} {w w' : World} (h : Tr col col' w w') : Tr col col' w w'.drew := h.trans ((ch_below (fun _ => False) (bdrew1 w') (fun _ _ => rfl)).tr (fun _ e => e.elim))
theorem Tr.temp {col col' : Nat → Nat} {w w' : World} (h : Tr col col' w w') {z : Nat} (hz : w.heap.size ≤ z) (i : Nat) (v : Value) : Tr col col' w (w'.setCell ⟨z, i, none⟩ v) := by
  have kb := (KB.refl z w').setCell i v
  exact ⟨kb.os.trans h.os, kb.tape.trans h.tape, kb.output.trans h.output, Nat.le_trans h.size kb.size, fun x hx hc => (kb.block x (Nat.lt_of_lt_of_le hx h.size) (by omega)).trans (h.block x hx hc), h.old⟩
end Lo
end Go.Proofs.YtddchcekljndmaaGreat
/- A loom tells an event, and has a goroutine go on, wait or be woken, over this seat's program. -/
namespace Go.Proofs.YtddchcekljndmaaGreat
open Go.ChangeShapes Go.WideShapes Go.ChangeAt Go.RowKit
namespace Lo
open Ba

theorem info_ev : (Tryz.prog.info? 66).map (fun i => (i.zero, i.size, i.bytes)) = some (some (.agg #[.int .i64 0, .int .i64 0, .int .i64 0, .int .i64 0, .int .i64 0, .int .i64 0, .bool false, .bool false]), 8, 56) := by kernel_rfl
section
variable {w u w2 : World} {col : Nat → Nat} {L N C B X : Nat} {FB : Nat → Prop} {pa : Option Addr} {pc : Nat} {bs : List (Option Nat)} {Fs : Nat → Nat → Prop} {ta : Option Addr} {tc : Nat} {s : Lm}
theorem LX.told {ta' : Option Addr} {n' tc' : Nat} {e : Ev} (h : LX w col L N C B X FB pa pc bs Fs ta tc s) (b1 : Below w.heap.size w u) (hn : n' = s.tr.length + 1)
    (ho : w2.ownsRow 0 66 8 (.slice ta' n' tc') n' (ec (s.tr ++ [e]))) (hg : u.grownBy w2 (Value.slice ta s.tr.length tc).ownBlock)
    (hat : (Value.slice ta' n' tc').ownBlock = (Value.slice ta s.tr.length tc).ownBlock ∨ (Value.slice ta' n' tc').ownBlock = some u.heap.size) :
    ∃ col', LX (w2.setCell ⟨L, 13, none⟩ (.slice ta' n' tc')) col' L N C B X FB pa pc bs Fs ta' tc' (tellS s e) ∧ Tr col col' w (w2.setCell ⟨L, 13, none⟩ (.slice ta' n' tc')) := by
  obtain ⟨col', o, nn, _⟩ := ext_ex w col (fun x => (Value.slice ta' n' tc').ownBlock = some x) 5
  have sz : (w2.setCell ⟨L, 13, none⟩ (.slice ta' n' tc')).heap.size = w2.heap.size := by simp [World.setCell]
  have c : Ch (fun c => c = 0 ∨ c = 5) col col' w (w2.setCell ⟨L, 13, none⟩ (.slice ta' n' tc')) := by
    refine ⟨hg.os.trans b1.os, hg.tape.trans b1.tape, hg.output.trans b1.output, by rw [sz]; exact Nat.le_trans b1.size hg.size, fun x hx hc => ?_, o⟩
    refine ((KB.refl L w2).setCell 13 _).block x (Nat.lt_of_lt_of_le hx (Nat.le_trans b1.size hg.size)) (fun e => hc (by rw [e, h.c0]; exact .inl rfl)) |>.trans ?_
    exact (hg.block x (Nat.lt_of_lt_of_le hx b1.size) (fun e => hc (.inr (h.c5 x e.symm)))).trans (b1.block x hx)
  have hL : w2.heap[L]? = some (.cells (lcs pa s.ps.length pc C B X s.nm s.md ta s.tr.length tc s.pk) 74 (0, 0)) :=
    (hg.block L (Nat.lt_of_lt_of_le h.lt b1.size) (fun e => by have := h.c5 L e.symm; rw [h.c0] at this; omega)).trans ((b1.block L h.lt).trans h.hp)
  have hl : (tellS s e).tr.length = n' := by rw [hn]; simp [tellS]
  have own' : (w2.setCell ⟨L, 13, none⟩ (.slice ta' n' tc')).ownsRow 0 66 8 (.slice ta' (tellS s e).tr.length tc') (tellS s e).tr.length (ec (tellS s e).tr) := by
    rw [hl]
    refine Cr.own_keep ho fun g e => ((KB.refl L w2).setCell 13 _).block g (by obtain ⟨_, cur, hc⟩ := Cr.own_blk ho g e; exact heap_lt hc) (fun e2 => ?_)
    obtain ⟨_, cur, hc⟩ := Cr.own_blk ho g e
    rw [e2, hL] at hc
    cases hc
  refine ⟨col', ⟨?_, h.nml, h.keepPs c (by simp), h.keepCu c (by simp), h.nc, h.keepCr c (by simp), h.keepRw c (by simp), h.keepQs c (by simp) (by simp), h.bl, own', h.k0 c, h.k1 c, h.k2 c, h.k3 c, h.k4 c, fun g e => ?_⟩, c.tr (fun c e => by rcases e with e | e <;> omega)⟩
  · rw [Ba.heap_setCell_same hL]
    rw [hl]
    rfl
  · rw [hl] at e
    rcases Nat.lt_or_ge g w.heap.size with q | q
    · rcases hat with z | z
      · rw [z] at e
        exact h.k5 c g e
      · rw [z] at e
        cases e
        have := b1.size
        omega
    · exact nn g q e
end
theorem src8 (w : World) (e : Ev) (t : TypeId) : ∀ j u, (ec [e])[j]? = some u → ((w.alloc (.cells #[.int .i64 e.k, .int .i64 e.g, .int .i64 e.c, .int .i64 e.a, .int .i64 e.v, .int .i64 e.m, .bool e.s, .bool e.o] t)).alloc (.cells #[.int .i64 e.k, .int .i64 e.g, .int .i64 e.c, .int .i64 e.a, .int .i64 e.v, .int .i64 e.m, .bool e.s, .bool e.o] t)).drew.cell? ((⟨w.heap.size + 1, 0, none⟩ : Addr).add j) = some u := by
  intro j u hj
  have hn := En.heap_new2 w (.cells #[.int .i64 e.k, .int .i64 e.g, .int .i64 e.c, .int .i64 e.a, .int .i64 e.v, .int .i64 e.m, .bool e.s, .bool e.o] t) (.cells #[.int .i64 e.k, .int .i64 e.g, .int .i64 e.c, .int .i64 e.a, .int .i64 e.v, .int .i64 e.m, .bool e.s, .bool e.o] t)
  rw [Addr.add_lit, Nat.zero_add, cell_of (heap_below hn (bdrew1 _)), ← hj]
  simp [ec, En.evc]
theorem own_sl {w : World} {base : Nat} {e : TypeId} {v : Value} {n : Nat} {xs : List Value} (h : w.ownsRow base e 8 v n xs) : ∃ oa c, v = .slice oa n c := by
  rcases h.2 with ⟨rfl, rfl⟩ | ⟨b, cap, cur, rfl, _⟩
  · exact ⟨none, 0, rfl⟩
  · exact ⟨_, _, rfl⟩
set_option maxRecDepth 100000 in
set_option maxHeartbeats 1600000 in
theorem tell_any (L : Nat) (col : Nat → Nat) (s : Lm) (e : Ev) (w : World) (h : LW w col L s) (ht : s.tr.length ≤ 1000000) :
    Calls Tryz.prog 40 #[.pointer (some ⟨L, 0, none⟩), En.evv e] w fun r w' => r = .returned (.tuple #[]) ∧ ∃ col', LW w' col' L (tellS s e) ∧ Tr col col' w w' := by
  obtain ⟨N, C, B, X, FB, pa, pc, bs, Fs, ta, tc, h⟩ := h
  unfold En.evv En.evc
  obtain ⟨i0, hi, hz0, hz1, hz2⟩ : ∃ i0, Tryz.prog.info? 66 = some i0 ∧ i0.zero = some (.agg #[.int .i64 0, .int .i64 0, .int .i64 0, .int .i64 0, .int .i64 0, .int .i64 0, .bool false, .bool false]) ∧ i0.size = 8 ∧ i0.bytes = 56 := by
    cases hi : Tryz.prog.info? 66 with
    | none => have := info_ev; rw [hi] at this; cases this
    | some i0 =>
      have hx := info_ev
      rw [hi] at hx
      simp at hx
      exact ⟨i0, rfl, hx⟩
  have INF := hide (And.intro hi (And.intro hz0 (And.intro hz1 hz2)))
  have H := hide h
  have y0 : w.cell? ⟨L, 13, none⟩ = some (.slice ta s.tr.length tc) := cell_of h.hp 13
  have f0 : w.frozen? ⟨L, 13, none⟩ = false := frozen_of h.hp 13
  have hL := h.lt
  clear h hi hz0 hz1 hz2
  have BD := hide (btr (btr (below_alloc w (.cells #[.int .i64 e.k, .int .i64 e.g, .int .i64 e.c, .int .i64 e.a, .int .i64 e.v, .int .i64 e.m, .bool e.s, .bool e.o] 66)) (below_alloc _ (.cells #[.int .i64 e.k, .int .i64 e.g, .int .i64 e.c, .int .i64 e.a, .int .i64 e.v, .int .i64 e.m, .bool e.s, .bool e.o] 66))) (bdrew1 _))
  have ow1 : ((w.alloc (.cells #[.int .i64 e.k, .int .i64 e.g, .int .i64 e.c, .int .i64 e.a, .int .i64 e.v, .int .i64 e.m, .bool e.s, .bool e.o] 66)).alloc (.cells #[.int .i64 e.k, .int .i64 e.g, .int .i64 e.c, .int .i64 e.a, .int .i64 e.v, .int .i64 e.m, .bool e.s, .bool e.o] 66)).drew.ownsRow 0 66 8 (.slice ta s.tr.length tc) s.tr.length (ec s.tr) := Cr.own_keep H.out.tr fun g e => by
    obtain ⟨_, cur, hc⟩ := Cr.own_blk H.out.tr g e
    exact BD.out.block g (heap_lt hc)
  obtain ⟨v', w6, hr, hown, hgrow, _, hat⟩ := run_append_own_at (P := Tryz.prog) (((w.alloc (.cells #[.int .i64 e.k, .int .i64 e.g, .int .i64 e.c, .int .i64 e.a, .int .i64 e.v, .int .i64 e.m, .bool e.s, .bool e.o] 66)).alloc (.cells #[.int .i64 e.k, .int .i64 e.g, .int .i64 e.c, .int .i64 e.a, .int .i64 e.v, .int .i64 e.m, .bool e.s, .bool e.o] 66)).drew) 0 28 28 66 i0 _ 8 56 Tryz.underlying28 INF.out.1 INF.out.2.1 INF.out.2.2.1 INF.out.2.2.2 rfl (by decide) _ _ _ ow1 ⟨w.heap.size + 1, 0, none⟩ 1 1 (ec [e]) rfl (src8 w e _) (ec_one _) (by unfold maxLen; omega) (by omega) (Nat.zero_le _)
  rw [← ec_app] at hown
  obtain ⟨ta', tc', rfl⟩ := own_sl hown
  have hs2 : ((w.alloc (.cells #[.int .i64 e.k, .int .i64 e.g, .int .i64 e.c, .int .i64 e.a, .int .i64 e.v, .int .i64 e.m, .bool e.s, .bool e.o] 66)).alloc (.cells #[.int .i64 e.k, .int .i64 e.g, .int .i64 e.c, .int .i64 e.a, .int .i64 e.v, .int .i64 e.m, .bool e.s, .bool e.o] 66)).drew.heap.size = w.heap.size + 1 + 1 := by rw [show ((w.alloc (.cells #[.int .i64 e.k, .int .i64 e.g, .int .i64 e.c, .int .i64 e.a, .int .i64 e.v, .int .i64 e.m, .bool e.s, .bool e.o] 66)).alloc (.cells #[.int .i64 e.k, .int .i64 e.g, .int .i64 e.c, .int .i64 e.a, .int .i64 e.v, .int .i64 e.m, .bool e.s, .bool e.o] 66)).drew.heap.size = ((w.alloc (.cells #[.int .i64 e.k, .int .i64 e.g, .int .i64 e.c, .int .i64 e.a, .int .i64 e.v, .int .i64 e.m, .bool e.s, .bool e.o] 66)).alloc (.cells #[.int .i64 e.k, .int .i64 e.g, .int .i64 e.c, .int .i64 e.a, .int .i64 e.v, .int .i64 e.m, .bool e.s, .bool e.o] 66)).heap.size from rfl, World.size_alloc, World.size_alloc]
  obtain ⟨col', hx, htr⟩ := H.out.told BD.out rfl hown hgrow hat
  have G6 : w6.heap[L]? = some (.cells (lcs pa s.ps.length pc C B X s.nm s.md ta s.tr.length tc s.pk) 74 (0, 0)) := by
    refine (hgrow.block L (Nat.lt_of_lt_of_le hL BD.out.size) (fun e => ?_)).trans ((BD.out.block L hL).trans H.out.hp)
    have := H.out.c5 L e.symm
    rw [H.out.c0] at this
    omega
  have y6 : w6.cell? ⟨L, 13, none⟩ = some (.slice ta s.tr.length tc) := cell_of G6 13
  have f6 : w6.frozen? ⟨L, 13, none⟩ = false := frozen_of G6 13
  have HX := hide hx
  have HT := hide htr
  have HR := hide hr
  clear hown hgrow hat hr hx htr G6 ow1 BD
  go_enter Tryz.func40, Tryz.ntmps40
  go_wp2_with fail
  go_region_law (refine Rp.step_append_run _ (by rfl) _ _ _ _ (by rfl) _ _ (by rfl) (by rfl) _ _ HR.out ?_)
  all_goals
    go_wp2_with fail
    go_end0
    exact ⟨rfl, col', HX.out.lw, HT.out⟩
theorem LW.below {w w' : World} {col : Nat → Nat} {L : Nat} {s : Lm} (h : LW w col L s) (hb : Below w.heap.size w w') : ∃ col', LW w' col' L s ∧ Tr col col' w w' ∧ ∀ x, w.heap.size ≤ x → col' x = 7 := by
  obtain ⟨N, C, B, X, FB, pa, pc, bs, Fs, ta, tc, h⟩ := h
  obtain ⟨col', hx, ht, hn⟩ := h.below hb
  exact ⟨col', hx.lw, ht, hn⟩
theorem LW.lt {w : World} {col : Nat → Nat} {L : Nat} {s : Lm} (h : LW w col L s) : L < w.heap.size := by
  obtain ⟨N, C, B, X, FB, pa, pc, bs, Fs, ta, tc, h⟩ := h
  exact h.lt
/-- what was there and is no part of a loom stands -/
theorem Tr.heap {col col' : Nat → Nat} {w w' : World} (h : Tr col col' w w') {x : Nat} {o : Obj} (hx : w.heap[x]? = some o) (hc : col x = 7) : w'.heap[x]? = some o := (h.block x (heap_lt hx) (by omega)).trans hx
set_option maxRecDepth 100000 in
set_option maxHeartbeats 1600000 in
theorem goes_any (L : Nat) (col : Nat → Nat) (s : Lm) (K : Nat) (e : Ev) (w : World) (h : LW w col L s) (hn : Cr.Bn K s.cr) (hK : K ≤ 100000) (ht : s.tr.length ≤ 1000000) :
    Calls Tryz.prog 68 #[.pointer (some ⟨L, 0, none⟩), En.evv e] w fun r w' => r = .returned (.tuple #[]) ∧ ∃ col', LW w' col' L (goS s e) ∧ Tr col col' w w' := by
  obtain ⟨N, C, B, X, FB, pa, pc, bs, Fs, ta, tc, h⟩ := h
  obtain ⟨col1, h1, t1, n1⟩ := h.below (btr (below_alloc w (.cells #[.int .i64 e.k, .int .i64 e.g, .int .i64 e.c, .int .i64 e.a, .int .i64 e.v, .int .i64 e.m, .bool e.s, .bool e.o] 66)) (bdrew1 _))
  have T1 := hide t1
  have H1 := hide h1
  have E1 := hide (heap_below (heap_new w (.cells #[.int .i64 e.k, .int .i64 e.g, .int .i64 e.c, .int .i64 e.a, .int .i64 e.v, .int .i64 e.m, .bool e.s, .bool e.o] 66)) (bdrew1 _))
  have y2 : w.cell? ⟨L, 2, none⟩ = some (.pointer (some ⟨B, 0, none⟩)) := cell_of h.hp 2
  have hL := h.lt
  have N1 := hide (n1 w.heap.size (Nat.le_refl _))
  have GO := hide (Cr.go_any B FB s.cr K e.g ((w.alloc (.cells #[.int .i64 e.k, .int .i64 e.g, .int .i64 e.c, .int .i64 e.a, .int .i64 e.v, .int .i64 e.m, .bool e.s, .bool e.o] 66)).drew) h1.cr hn hK)
  have LT := w.heap.size
  unfold En.evv En.evc
  clear h t1 h1 n1 hn
  go_enter Tryz.func68, Tryz.ntmps68
  go_wp2_with fail
  go_region_with (go_at_call 92; refine GO.out.mono ?_; rintro r w2 ⟨rfl, p2⟩)
  all_goals
    obtain ⟨FB2, col2, h2, t2⟩ := H1.out.crew p2
    have T2 := hide (T1.out.trans t2)
    have E2 := hide (t2.heap E1.out N1.out)
    have TE := hide (tell_any L col2 _ e w2 h2.lw ht)
    unfold En.evv En.evc at TE
    have a0 := cell_of E2.out 0
    have a1 := cell_of E2.out 1
    have a2 := cell_of E2.out 2
    have a3 := cell_of E2.out 3
    have a4 := cell_of E2.out 4
    have a5 := cell_of E2.out 5
    have a6 := cell_of E2.out 6
    have a7 := cell_of E2.out 7
    simp at a0 a1 a2 a3 a4 a5 a6 a7
    clear p2 h2 t2 GO H1 T1 E1 y2
    go_wp2_with fail
    refine TE.out.mono ?_
    rintro r w3 ⟨rfl, col3, h3, t3⟩
    have H3 := hide h3
    have T3 := hide (T2.out.trans t3)
    clear h3 t3
    go_wp2_with fail
    go_end0
    exact ⟨rfl, col3, H3.out, T3.out⟩
set_option maxRecDepth 100000 in
set_option maxHeartbeats 1600000 in
theorem waits_any (L : Nat) (col : Nat → Nat) (s : Lm) (K : Nat) (e : Ev) (w : World) (h : LW w col L s) (hn : Cr.Bn K s.cr) (hK : K ≤ 100000) (ht : s.tr.length ≤ 1000000) :
    Calls Tryz.prog 97 #[.pointer (some ⟨L, 0, none⟩), En.evv e] w fun r w' => r = .returned (.tuple #[]) ∧ ∃ col', LW w' col' L (waitsS s e) ∧ Tr col col' w w' := by
  obtain ⟨N, C, B, X, FB, pa, pc, bs, Fs, ta, tc, h⟩ := h
  obtain ⟨col1, h1, t1, n1⟩ := h.below (btr (below_alloc w (.cells #[.int .i64 e.k, .int .i64 e.g, .int .i64 e.c, .int .i64 e.a, .int .i64 e.v, .int .i64 e.m, .bool e.s, .bool e.o] 66)) (bdrew1 _))
  have T1 := hide t1
  have H1 := hide h1
  have E1 := hide (heap_below (heap_new w (.cells #[.int .i64 e.k, .int .i64 e.g, .int .i64 e.c, .int .i64 e.a, .int .i64 e.v, .int .i64 e.m, .bool e.s, .bool e.o] 66)) (bdrew1 _))
  have y2 : w.cell? ⟨L, 2, none⟩ = some (.pointer (some ⟨B, 0, none⟩)) := cell_of h.hp 2
  have hL := h.lt
  have N1 := hide (n1 w.heap.size (Nat.le_refl _))
  have GO := hide (Cr.park_any B FB s.cr K e.g ((w.alloc (.cells #[.int .i64 e.k, .int .i64 e.g, .int .i64 e.c, .int .i64 e.a, .int .i64 e.v, .int .i64 e.m, .bool e.s, .bool e.o] 66)).drew) h1.cr hn hK)
  have LT := w.heap.size
  unfold En.evv En.evc
  clear h t1 h1 n1 hn
  go_enter Tryz.func97, Tryz.ntmps97
  go_wp2_with fail
  go_region_with (go_at_call 123; refine GO.out.mono ?_; rintro r w2 ⟨rfl, p2⟩)
  all_goals
    obtain ⟨FB2, col2, h2, t2⟩ := H1.out.crew p2
    have T2 := hide (T1.out.trans t2)
    have E2 := hide (t2.heap E1.out N1.out)
    have TE := hide (tell_any L col2 _ e w2 h2.lw ht)
    unfold En.evv En.evc at TE
    have a0 := cell_of E2.out 0
    have a1 := cell_of E2.out 1
    have a2 := cell_of E2.out 2
    have a3 := cell_of E2.out 3
    have a4 := cell_of E2.out 4
    have a5 := cell_of E2.out 5
    have a6 := cell_of E2.out 6
    have a7 := cell_of E2.out 7
    simp at a0 a1 a2 a3 a4 a5 a6 a7
    clear p2 h2 t2 GO H1 T1 E1 y2
    go_wp2_with fail
    refine TE.out.mono ?_
    rintro r w3 ⟨rfl, col3, h3, t3⟩
    have H3 := hide h3
    have T3 := hide (T2.out.trans t3)
    clear h3 t3
    go_wp2_with fail
    go_end0
    exact ⟨rfl, col3, H3.out, T3.out⟩
end Lo
end Go.Proofs.YtddchcekljndmaaGreat
/- The reference's crew, over this seat's program: Has, Spawn, Turn, Able, Over. -/
namespace Go.Proofs.YtddchcekljndmaaGreat
open Go.ChangeShapes Go.WideShapes Go.ChangeAt Go.RowKit
namespace Cr
open Ba

abbrev RC (w : World) (B : Nat) (F : Nat → Prop) (l : List Mb) : Prop := Cq 59 63 w B F l
theorem info_one : (Tryz.prog.info? 63).map (fun i => (i.zero, i.size, i.bytes)) = some (some (tv 0 0 0), 3, 24) := by kernel_rfl
theorem rhas_any (B : Nat) (F : Nat → Prop) (l : List Mb) (g : Int) (w : World) (h : RC w B F l) :
    Calls Tryz.prog 106 #[.pointer (some ⟨B, 0, none⟩), .int .i64 g] w fun r w' => r = .returned (.bool (thr l g)) ∧ w' = w := by
  unfold thr
  have hle := h.le
  obtain ⟨oa, c, h⟩ := h
  have y0 : w.cell? ⟨B, 0, none⟩ = some (.slice oa l.length c) := cell_of h.hp 0
  clear h
  cases hg : gt l g with
  | none =>
    have hg' := gt_none hg
    clear hg
    cases h1 : decide (0 ≤ g)
    · clear hg'
      go_enter Tryz.func106, Tryz.ntmps106
      go_wp2_with fail
      go_ret
      exact ⟨rfl, rfl⟩
    · have d2 : decide (g < (l.length : Int)) = false := by simp at h1 ⊢; omega
      clear hg'
      go_enter Tryz.func106, Tryz.ntmps106
      go_wp2_with fail
      go_ret
      exact ⟨rfl, rfl⟩
  | some x =>
    obtain ⟨k, rfl, hk, hx⟩ := gt_some hg
    have d1 : decide (0 ≤ (k : Int)) = true := decide_eq_true (by omega)
    have d2 : decide ((k : Int) < (l.length : Int)) = true := decide_eq_true (by omega)
    clear hx hg
    go_enter Tryz.func106, Tryz.ntmps106
    go_wp2_with fail
    go_ret
    exact ⟨rfl, rfl⟩
set_option maxHeartbeats 1600000 in
theorem rturn00 (B : Nat) (F : Nat → Prop) (l : List Mb) (K : Nat) (g : Int) (w : World) (h : RC w B F l) (hn : Bn K l) (hK : K ≤ 100000) :
    Calls Tryz.prog 79 #[.pointer (some ⟨B, 0, none⟩), .int .i64 g, .int .i64 0, .int .i64 0] w fun r w' => r = .returned (.int .i64 (chE l g 0)) ∧ Po 59 63 w w' B F (chL l g 0 0 1) := by
  unfold chE chL
  have HS := hide (rhas_any B F l g w h)
  have HH := hide h
  cases hg : gt l g with
  | none =>
    simp only
    unfold thr at HS
    rw [hg] at HS
    simp only [Option.isSome_none] at HS
    clear h hg hn
    go_enter Tryz.func79, Tryz.ntmps79
    go_wp2_with fail
    refine HS.out.mono ?_
    rintro r w1 ⟨rfl, rfl⟩
    go_wp2_with fail
    go_ret
    exact ⟨rfl, Po.of HH.out (Below.refl _ _)⟩
  | some x =>
    simp only
    unfold thr at HS
    rw [hg] at HS
    simp only [Option.isSome_some] at HS
    obtain ⟨k, rfl, hk, hx⟩ := gt_some hg
    rw [Int.toNat_natCast]
    have hle := h.le
    obtain ⟨oa, c, h⟩ := h
    have hb1 := hn.at hx
    have H := hide h
    obtain ⟨m, rfl, q0, q1, q2⟩ := h.at.1 k x hx
    obtain ⟨_, cur, hm⟩ := own_blk h.ow m rfl
    have hmB : m ≠ B := by
      intro e
      rw [e, h.hp] at hm
      cases hm
    have y0 : w.cell? ⟨B, 0, none⟩ = some (.slice (some ⟨m, 0, none⟩) l.length c) := cell_of h.hp 0
    have z1 := frozen_of hm (k * 3 + 1)
    have z2 := frozen_of hm (k * 3 + 2)
    have hFm := hide (h.fr m rfl)
    have HX := hide hx
    have d3 : (k : Int) < (l.length : Int) := by omega
    clear h hg hx hm hn
    by_cases hs : x.s = 0
    · rw [if_pos hs, if_pos hs]
      have e1 : (x.s != 0) = false := by simp [hs]
      clear hs
      go_enter Tryz.func79, Tryz.ntmps79
      go_wp2_with fail
      refine HS.out.mono ?_
      rintro r w1 ⟨rfl, rfl⟩
      go_wp2_with fail
      go_region
      all_goals
        go_wp2_with fail
        go_ret
        exact ⟨rfl, F, ⟨some ⟨m, 0, none⟩, c, (H.out.both (by decide) HX.out _ _).below (bdrew1 _)⟩, ((((KF.refl _ _).set hFm.out _ _).set hFm.out _ _).then (bdrew1 _)), Nw.refl _ _⟩
    · rw [if_neg hs, if_neg hs]
      have e1 : (x.s != 0) = true := by simp [hs]
      clear hs
      go_enter Tryz.func79, Tryz.ntmps79
      go_wp2_with fail
      refine HS.out.mono ?_
      rintro r w1 ⟨rfl, rfl⟩
      go_wp2_with fail
      go_ret
      exact ⟨rfl, Po.of HH.out (Below.refl _ _)⟩
set_option maxHeartbeats 1600000 in
theorem rturn01 (B : Nat) (F : Nat → Prop) (l : List Mb) (K : Nat) (g : Int) (w : World) (h : RC w B F l) (hn : Bn K l) (_hK : K ≤ 100000) :
    Calls Tryz.prog 79 #[.pointer (some ⟨B, 0, none⟩), .int .i64 g, .int .i64 0, .int .i64 1] w fun r w' => r = .returned (.int .i64 (chE l g 0)) ∧ Po 59 63 w w' B F (chL l g 0 1 0) := by
  unfold chE chL
  have HS := hide (rhas_any B F l g w h)
  have HH := hide h
  cases hg : gt l g with
  | none =>
    simp only
    unfold thr at HS
    rw [hg] at HS
    simp only [Option.isSome_none] at HS
    clear h hg hn
    go_enter Tryz.func79, Tryz.ntmps79
    go_wp2_with fail
    refine HS.out.mono ?_
    rintro r w1 ⟨rfl, rfl⟩
    go_wp2_with fail
    go_ret
    exact ⟨rfl, Po.of HH.out (Below.refl _ _)⟩
  | some x =>
    simp only
    unfold thr at HS
    rw [hg] at HS
    simp only [Option.isSome_some] at HS
    obtain ⟨k, rfl, hk, hx⟩ := gt_some hg
    rw [Int.toNat_natCast]
    have hle := h.le
    obtain ⟨oa, c, h⟩ := h
    have hb1 := hn.at hx
    have H := hide h
    obtain ⟨m, rfl, q0, q1, q2⟩ := h.at.1 k x hx
    obtain ⟨_, cur, hm⟩ := own_blk h.ow m rfl
    have hmB : m ≠ B := by
      intro e
      rw [e, h.hp] at hm
      cases hm
    have y0 : w.cell? ⟨B, 0, none⟩ = some (.slice (some ⟨m, 0, none⟩) l.length c) := cell_of h.hp 0
    have z1 := frozen_of hm (k * 3 + 1)
    have z2 := frozen_of hm (k * 3 + 2)
    have hFm := hide (h.fr m rfl)
    have HX := hide hx
    have d3 : (k : Int) < (l.length : Int) := by omega
    clear h hg hx hm hn
    by_cases hs : x.s = 0
    · rw [if_pos hs, if_pos hs]
      have e1 : (x.s != 0) = false := by simp [hs]
      clear hs
      go_enter Tryz.func79, Tryz.ntmps79
      go_wp2_with fail
      refine HS.out.mono ?_
      rintro r w1 ⟨rfl, rfl⟩
      go_wp2_with fail
      go_ret
      exact ⟨rfl, F, ⟨some ⟨m, 0, none⟩, c, by have q := H.out.set2 (by decide) HX.out 1; rw [Int.add_zero]; exact q⟩, (KF.refl _ _).set hFm.out _ _, Nw.refl _ _⟩
    · rw [if_neg hs, if_neg hs]
      have e1 : (x.s != 0) = true := by simp [hs]
      clear hs
      go_enter Tryz.func79, Tryz.ntmps79
      go_wp2_with fail
      refine HS.out.mono ?_
      rintro r w1 ⟨rfl, rfl⟩
      go_wp2_with fail
      go_ret
      exact ⟨rfl, Po.of HH.out (Below.refl _ _)⟩
set_option maxHeartbeats 1600000 in
theorem rturn10 (B : Nat) (F : Nat → Prop) (l : List Mb) (K : Nat) (g : Int) (w : World) (h : RC w B F l) (hn : Bn K l) (hK : K ≤ 100000) :
    Calls Tryz.prog 79 #[.pointer (some ⟨B, 0, none⟩), .int .i64 g, .int .i64 1, .int .i64 0] w fun r w' => r = .returned (.int .i64 (chE l g 1)) ∧ Po 59 63 w w' B F (chL l g 1 0 1) := by
  unfold chE chL
  have HS := hide (rhas_any B F l g w h)
  have HH := hide h
  cases hg : gt l g with
  | none =>
    simp only
    unfold thr at HS
    rw [hg] at HS
    simp only [Option.isSome_none] at HS
    clear h hg hn
    go_enter Tryz.func79, Tryz.ntmps79
    go_wp2_with fail
    refine HS.out.mono ?_
    rintro r w1 ⟨rfl, rfl⟩
    go_wp2_with fail
    go_ret
    exact ⟨rfl, Po.of HH.out (Below.refl _ _)⟩
  | some x =>
    simp only
    unfold thr at HS
    rw [hg] at HS
    simp only [Option.isSome_some] at HS
    obtain ⟨k, rfl, hk, hx⟩ := gt_some hg
    rw [Int.toNat_natCast]
    have hle := h.le
    obtain ⟨oa, c, h⟩ := h
    have hb1 := hn.at hx
    have H := hide h
    obtain ⟨m, rfl, q0, q1, q2⟩ := h.at.1 k x hx
    obtain ⟨_, cur, hm⟩ := own_blk h.ow m rfl
    have hmB : m ≠ B := by
      intro e
      rw [e, h.hp] at hm
      cases hm
    have y0 : w.cell? ⟨B, 0, none⟩ = some (.slice (some ⟨m, 0, none⟩) l.length c) := cell_of h.hp 0
    have z1 := frozen_of hm (k * 3 + 1)
    have z2 := frozen_of hm (k * 3 + 2)
    have hFm := hide (h.fr m rfl)
    have HX := hide hx
    have d3 : (k : Int) < (l.length : Int) := by omega
    clear h hg hx hm hn
    by_cases hs : x.s = 1
    · rw [if_pos hs, if_pos hs]
      have e1 : (x.s != 1) = false := by simp [hs]
      clear hs
      go_enter Tryz.func79, Tryz.ntmps79
      go_wp2_with fail
      refine HS.out.mono ?_
      rintro r w1 ⟨rfl, rfl⟩
      go_wp2_with fail
      go_region
      all_goals
        go_wp2_with fail
        go_ret
        exact ⟨rfl, F, ⟨some ⟨m, 0, none⟩, c, (H.out.both (by decide) HX.out _ _).below (bdrew1 _)⟩, ((((KF.refl _ _).set hFm.out _ _).set hFm.out _ _).then (bdrew1 _)), Nw.refl _ _⟩
    · rw [if_neg hs, if_neg hs]
      have e1 : (x.s != 1) = true := by simp [hs]
      clear hs
      go_enter Tryz.func79, Tryz.ntmps79
      go_wp2_with fail
      refine HS.out.mono ?_
      rintro r w1 ⟨rfl, rfl⟩
      go_wp2_with fail
      go_ret
      exact ⟨rfl, Po.of HH.out (Below.refl _ _)⟩
set_option maxHeartbeats 1600000 in
theorem rturn02 (B : Nat) (F : Nat → Prop) (l : List Mb) (K : Nat) (g : Int) (w : World) (h : RC w B F l) (hn : Bn K l) (_hK : K ≤ 100000) :
    Calls Tryz.prog 79 #[.pointer (some ⟨B, 0, none⟩), .int .i64 g, .int .i64 0, .int .i64 2] w fun r w' => r = .returned (.int .i64 (chE l g 0)) ∧ Po 59 63 w w' B F (chL l g 0 2 0) := by
  unfold chE chL
  have HS := hide (rhas_any B F l g w h)
  have HH := hide h
  cases hg : gt l g with
  | none =>
    simp only
    unfold thr at HS
    rw [hg] at HS
    simp only [Option.isSome_none] at HS
    clear h hg hn
    go_enter Tryz.func79, Tryz.ntmps79
    go_wp2_with fail
    refine HS.out.mono ?_
    rintro r w1 ⟨rfl, rfl⟩
    go_wp2_with fail
    go_ret
    exact ⟨rfl, Po.of HH.out (Below.refl _ _)⟩
  | some x =>
    simp only
    unfold thr at HS
    rw [hg] at HS
    simp only [Option.isSome_some] at HS
    obtain ⟨k, rfl, hk, hx⟩ := gt_some hg
    rw [Int.toNat_natCast]
    have hle := h.le
    obtain ⟨oa, c, h⟩ := h
    have hb1 := hn.at hx
    have H := hide h
    obtain ⟨m, rfl, q0, q1, q2⟩ := h.at.1 k x hx
    obtain ⟨_, cur, hm⟩ := own_blk h.ow m rfl
    have hmB : m ≠ B := by
      intro e
      rw [e, h.hp] at hm
      cases hm
    have y0 : w.cell? ⟨B, 0, none⟩ = some (.slice (some ⟨m, 0, none⟩) l.length c) := cell_of h.hp 0
    have z1 := frozen_of hm (k * 3 + 1)
    have z2 := frozen_of hm (k * 3 + 2)
    have hFm := hide (h.fr m rfl)
    have HX := hide hx
    have d3 : (k : Int) < (l.length : Int) := by omega
    clear h hg hx hm hn
    by_cases hs : x.s = 0
    · rw [if_pos hs, if_pos hs]
      have e1 : (x.s != 0) = false := by simp [hs]
      clear hs
      go_enter Tryz.func79, Tryz.ntmps79
      go_wp2_with fail
      refine HS.out.mono ?_
      rintro r w1 ⟨rfl, rfl⟩
      go_wp2_with fail
      go_ret
      exact ⟨rfl, F, ⟨some ⟨m, 0, none⟩, c, by have q := H.out.set2 (by decide) HX.out 2; rw [Int.add_zero]; exact q⟩, (KF.refl _ _).set hFm.out _ _, Nw.refl _ _⟩
    · rw [if_neg hs, if_neg hs]
      have e1 : (x.s != 0) = true := by simp [hs]
      clear hs
      go_enter Tryz.func79, Tryz.ntmps79
      go_wp2_with fail
      refine HS.out.mono ?_
      rintro r w1 ⟨rfl, rfl⟩
      go_wp2_with fail
      go_ret
      exact ⟨rfl, Po.of HH.out (Below.refl _ _)⟩
set_option maxRecDepth 100000 in
set_option maxHeartbeats 1600000 in
theorem rable_any (B : Nat) (F : Nat → Prop) (l : List Mb) (w : World) (h : Cq 59 63 w B F l) :
    Calls Tryz.prog 39 #[.pointer (some ⟨B, 0, none⟩)] w fun r w' => ∃ ob d, r = .returned (.slice ob (abl l).length d) ∧ At w' ob (abl l) ∧ Below w.heap.size w w' := by
  cases hi : Tryz.prog.info? 3 with
  | none => have := info_i; rw [hi] at this; cases this
  | some i0 =>
  have hx2 := info_i
  rw [hi] at hx2
  simp at hx2
  have INF := hide (And.intro hi hx2)
  clear hx2 hi
  have hle := h.le
  obtain ⟨oa, c, h⟩ := h
  have hB := h.lt
  have y0 : w.cell? ⟨B, 0, none⟩ = some (.slice oa l.length c) := cell_of h.hp 0
  have HA := hide h.at.1
  have AL := hide y0
  clear h
  go_enter Tryz.func39, Tryz.ntmps39
  go_wp2_with fail
  go_loopw [3, 11] (fun rv i wr => ∃ (v : Value) (k : Nat), k ≤ l.length ∧ i = .int .i64 k ∧ rv = v ∧ wr.ownsRow w.heap.size 3 1 v (abl (l.take k)).length (ic (abl (l.take k))) ∧ Below w.heap.size w wr) (fun _ i _ => l.length - (intOf i).toNat)
  case atStart => exact ⟨_, 0, Nat.zero_le _, rfl, rfl, World.ownsRow_nil _ _ _ _, Below.refl _ _⟩
  case round =>
    obtain ⟨v, k, hk, rfl, rfl, ho, hb⟩ := hrel
    by_cases hlt : k < l.length
    · have hlt' : (k : Int) < (l.length : Int) := by omega
      obtain ⟨x, hx⟩ : ∃ x, l[k]? = some x := ⟨_, List.getElem?_eq_getElem hlt⟩
      obtain ⟨b, rfl, q0, q1, q2⟩ := HA.out.below hb k x hx
      have DT := hide (abl_take hx)
      have hdl : (abl (l.take k)).length ≤ k := by
        have h1 := abl_len (l.take k)
        have h2 := List.length_take_le k l
        omega
      clear hx
      obtain ⟨X, hX⟩ : ∃ X, X = abl (l.take k) := ⟨_, rfl⟩
      rw [← hX] at DT hdl ho
      clear hX
      have BX := below_alloc wr (.cells #[.int .i64 x.p, .int .i64 x.q, .int .i64 x.s] 63)
      by_cases hs : x.s = 0
      · have EX : Hid (abl (l.take (k + 1)) = X ++ [(k : Int)]) := by
          show _ = _
          rw [DT.out, if_pos hs]
        rw [hs] at q2 BX
        have OW1 := own_below ho BX
        have HB1 := btr hb BX
        have BY := below_alloc (wr.alloc (.cells #[.int .i64 x.p, .int .i64 x.q, .int .i64 0] 63)) (.cells #[.int .i64 (k : Int)] 3)
        have OW := hide (own_below OW1 BY)
        have HB := hide (btr HB1 BY)
        have SR := cell_one_new (wr.alloc (.cells #[.int .i64 x.p, .int .i64 x.q, .int .i64 0] 63)) (.int .i64 (k : Int)) 3
        rw [World.size_alloc] at SR
        have SRC := hide SR
        clear OW1 HB1 BY SR ho hb BX DT hs
        go_wp2_with (at_builtin; refine wpList_append_own _ rfl _ _ 23 rfl w.heap.size 3 i0 (.int .i64 0) 1 8 Tryz.underlying23 INF.out.1 INF.out.2.1 INF.out.2.2.1 INF.out.2.2.2 rfl (by decide) _ _ _ rfl OW.out ⟨wr.heap.size + 1, 0, none⟩ 1 1 [.int .i64 (k : Int)] rfl rfl ?c1 ?c2 ?c3 ?c4 ?c5 ?_)
        case c1 => first | exact SRC.out | exact fun j u hj => hj
        case c2 => intro u hu; simp at hu; subst hu; rfl
        case c3 => unfold maxLen; omega
        case c4 => omega
        case c5 => first | exact HB.out.size | (have := HB.out.size; rw [World.size_alloc, World.size_alloc] at this; exact this)
        intro v' w3 ho hg3 _
        have B3 : Hid (Below w.heap.size w w3) := HB.out.grown hg3 HB.out.size (fun x hx => (OW.out.lt x hx).1)
        have O3 : Hid (w3.ownsRow w.heap.size 3 1 v' (abl (l.take (k + 1))).length (ic (abl (l.take (k + 1))))) := by
          show World.ownsRow _ _ _ _ _ _ _
          rw [EX.out, ic_app, List.length_append]
          exact ho
        clear ho hg3
        go_wp2_with fail
        go_roundw
        case rel =>
          first
            | exact ⟨v', k + 1, by omega, by go_num, rfl, O3.out, B3.out⟩
            | ((repeat apply Exists.intro); exact ⟨⟨v', k + 1, by omega, by go_num, rfl, O3.out, B3.out⟩, rfl⟩)
        case measure => simp [intOf]; omega
      · have hs' : (x.s == 0) = false := by simpa using hs
        have EX : Hid (abl (l.take (k + 1)) = X) := by
          show _ = _
          rw [DT.out, if_neg hs, List.append_nil]
        have O3 : Hid ((wr.alloc (.cells #[.int .i64 x.p, .int .i64 x.q, .int .i64 x.s] 63)).ownsRow w.heap.size 3 1 u3 (abl (l.take (k + 1))).length (ic (abl (l.take (k + 1))))) := by
          show World.ownsRow _ _ _ _ _ _ _
          rw [EX.out]
          exact own_below ho BX
        have B3 := hide (btr hb BX)
        clear ho hb BX DT hs
        go_wp2_with fail
        go_roundw
        case rel =>
          first
            | exact ⟨_, k + 1, by omega, by go_num, rfl, O3.out, B3.out⟩
            | exact ⟨k + 1, by omega, by go_num, O3.out, B3.out⟩
        case measure => simp [intOf]; omega
    · have hlt' : ¬ ((k : Int) < (l.length : Int)) := by omega
      rw [List.take_of_length_le (by omega)] at ho
      obtain ⟨oa', c', hv', hA', _⟩ := own_at ho
      subst hv'
      have HA' := hide hA'
      have HB := hide hb
      clear ho hb hA'
      go_wp2_with fail
      go_ret
      first
        | exact ⟨oa', c', rfl, HA'.out, HB.out⟩
        | exact ⟨oa', ⟨c', rfl⟩, HA'.out, HB.out⟩

set_option maxRecDepth 100000 in
set_option maxHeartbeats 1600000 in
theorem rover_any (B : Nat) (F : Nat → Prop) (l : List Mb) (w : World) (h : RC w B F l) :
    Calls Tryz.prog 36 #[.pointer (some ⟨B, 0, none⟩)] w fun r w' => r = .returned (.int .i64 (ovr l)) ∧ Below w.heap.size w w' := by
  have hle := h.le
  obtain ⟨oa, c, h⟩ := h
  have hB := h.lt
  have y0 : w.cell? ⟨B, 0, none⟩ = some (.slice oa l.length c) := cell_of h.hp 0
  have HA := hide h.at.1
  clear h
  go_enter Tryz.func36, Tryz.ntmps36
  go_wp2_with fail
  go_loopw [3, 11] (fun o i wr => ∃ (k : Nat) (n : Int), k ≤ l.length ∧ i = .int .i64 k ∧ o = .int .i64 n ∧ (hasS (l.take k) 0 = false ∧ n = if hasS (l.take k) 1 = true then 2 else 1) ∧ Below w.heap.size w wr) (fun _ i _ => l.length - (intOf i).toNat)
  case atStart => exact ⟨0, 1, Nat.zero_le _, rfl, rfl, ⟨rfl, rfl⟩, Below.refl _ _⟩
  case round =>
    obtain ⟨k, n, hk, rfl, rfl, ⟨h0, h1⟩, hb⟩ := hrel
    have H0 := hide h0
    have H1 := hide h1
    have HB := hide hb
    clear h0 h1 hb
    by_cases hlt : k < l.length
    · have hlt' : (k : Int) < (l.length : Int) := by omega
      obtain ⟨x, hx⟩ : ∃ x, l[k]? = some x := ⟨_, List.getElem?_eq_getElem hlt⟩
      obtain ⟨b, rfl, q0, q1, q2⟩ := HA.out.below HB.out k x hx
      have T0 := hide (hasS_take hx 0)
      have T1 := hide (hasS_take hx 1)
      have HX := hide hx
      clear hx
      by_cases hs : x.s = 0
      · rw [hs] at q2
        have EO : Hid (ovr l = 0) := by
          show _ = _
          unfold ovr
          rw [if_pos]
          unfold hasS
          rw [List.any_eq_true]
          exact ⟨x, List.mem_of_getElem? HX.out, by rw [hs]; rfl⟩
        clear hs
        go_wp2_with fail
        go_ret
        exact ⟨ret_int EO.out.symm, btr HB.out (below_alloc _ _)⟩
      · have d0 : (x.s == 0) = false := by simpa using hs
        have N0 : Hid (hasS (l.take (k + 1)) 0 = false) := by show _ = _; rw [T0.out, H0.out, d0]; rfl
        cases d1 : x.s == 1
        · have N1 : Hid (n = if hasS (l.take (k + 1)) 1 = true then 2 else 1) := by show _ = _; rw [T1.out, d1, Bool.or_false]; exact H1.out
          clear hs
          go_wp2_with fail
          go_roundw
          case rel => exact ⟨k + 1, n, by omega, by go_num, rfl, ⟨N0.out, N1.out⟩, btr HB.out (below_alloc _ _)⟩
          case measure => simp [intOf]; omega
        · have N1 : Hid ((2 : Int) = if hasS (l.take (k + 1)) 1 = true then 2 else 1) := by show _ = _; rw [T1.out, d1, Bool.or_true]; rfl
          clear hs
          go_wp2_with fail
          go_roundw
          case rel => exact ⟨k + 1, 2, by omega, by go_num, rfl, ⟨N0.out, N1.out⟩, btr HB.out (below_alloc _ _)⟩
          case measure => simp [intOf]; omega
    · have hlt' : ¬ ((k : Int) < (l.length : Int)) := by omega
      rw [List.take_of_length_le (by omega)] at H0 H1
      have EO : Hid (ovr l = n) := by
        show _ = _
        unfold ovr
        rw [H1.out, H0.out, if_neg (by simp)]
      go_wp2_with fail
      go_ret
      exact ⟨ret_int EO.out.symm, HB.out⟩
set_option maxRecDepth 100000 in
set_option maxHeartbeats 1600000 in
theorem rspawn_any (B : Nat) (F : Nat → Prop) (l : List Mb) (p : Int) (w : World) (h : RC w B F l) :
    Calls Tryz.prog 30 #[.pointer (some ⟨B, 0, none⟩), .int .i64 p] w fun r w' => r = .returned (.tuple #[.int .i64 (spV l p), .int .i64 (spE l p)]) ∧ Po 59 63 w w' B F (spL l p) := by
  unfold spV spE spL
  by_cases h1 : p < 0
  · simp only [if_pos h1]
    have H := hide h
    clear h
    go_enter Tryz.func30, Tryz.ntmps30
    go_wp2_with fail
    go_ret2
    exact ⟨rfl, Po.of H.out (Below.refl _ _)⟩
  simp only [if_neg h1]
  have d1 : decide (p < 0) = false := decide_eq_false h1
  have hle := h.le
  obtain ⟨oa, c, h⟩ := h
  have hB := h.lt
  have y0 : w.cell? ⟨B, 0, none⟩ = some (.slice oa l.length c) := cell_of h.hp 0
  by_cases h2 : 512 ≤ l.length
  · simp only [if_pos h2]
    have hl : l.length = 512 := by omega
    have H := hide h
    rw [hl] at y0
    clear h hl h2 hle
    go_enter Tryz.func30, Tryz.ntmps30
    go_wp2_with fail
    go_ret2
    exact ⟨rfl, Po.of ⟨_, _, H.out⟩ (Below.refl _ _)⟩
  simp only [if_neg h2]
  have e1 : decide ((512 : Int) ≤ ((l.length : Nat) : Int)) = false := decide_eq_false (by omega)
  have hl : l.length < 512 := by omega
  have BD := hide h.bd
  have b1 := below_alloc w (.cells #[.int .i64 p, .int .i64 0, .int .i64 0] 63)
  have B1 := hide b1
  have H1 := hide (h.below b1)
  have f0 : w.frozen? ⟨B, 0, none⟩ = false := frozen_of h.hp 0
  cases hi : Tryz.prog.info? 63 with
  | none => have := info_one; rw [hi] at this; cases this
  | some i0 =>
  have hx := info_one
  rw [hi] at hx
  simp at hx
  have INF := hide (And.intro hi hx)
  clear hx hi h2 hle h b1
  go_enter Tryz.func30, Tryz.ntmps30
  go_wp2_with (at_builtin; refine wpList_append_own_at _ rfl _ _ 57 rfl 0 63 i0 (tv 0 0 0) 3 24 Tryz.underlying57 INF.out.1 INF.out.2.1 INF.out.2.2.1 INF.out.2.2.2 rfl (by decide) _ _ _ rfl H1.out.ow ⟨w.heap.size, 0, none⟩ 1 1 (mc [⟨p, 0, 0⟩]) rfl rfl ?c1 ?c2 ?c3 ?c4 (Nat.zero_le _) ?_)
  case c1 => first | exact src3 w ⟨p, 0, 0⟩ _ | exact fun j u hj => hj
  case c2 => exact mc_one _
  case c3 => unfold maxLen; omega
  case c4 => omega
  intro v' w2 ho hg _ hat
  rw [← mc_app] at ho
  have ho2 : w2.ownsRow 0 63 3 v' (l ++ [Mb.mk p 0 0]).length (mc (l ++ [Mb.mk p 0 0])) := by rw [List.length_append]; exact ho
  obtain ⟨oa', c', rfl, _, _⟩ := owns_mat ho2
  have hB1 : some B ≠ (Value.slice oa l.length c).ownBlock := own_ty H1.out.ow H1.out.hp (by decide)
  have hB2 : w2.heap[B]? = some (.cells #[.slice oa l.length c] 59 (0, 0)) := (hg.block B H1.out.lt hB1).trans H1.out.hp
  have y2 : w2.cell? ⟨B, 0, none⟩ = some (.slice oa l.length c) := cell_of hB2 0
  have f2 : w2.frozen? ⟨B, 0, none⟩ = false := frozen_of hB2 0
  have PO := hide (H1.out.grow B1.out BD.out (by decide) ho2 hg (by rw [World.size_alloc]; exact hat) hl)
  clear ho ho2 hg hat hB1 hB2
  have hn2 : (l ++ [Mb.mk p 0 0]).length = l.length + 1 := by simp
  generalize (l ++ [Mb.mk p 0 0]).length = n2 at PO hn2 ⊢
  subst hn2
  go_wp2_with fail
  go_ret2
  exact ⟨by first | rfl | (simp; done) | (congr 3; omega), PO.out⟩
end Cr
end Go.Proofs.YtddchcekljndmaaGreat
/- The reference's New, over this seat's program. -/
namespace Go.Proofs.YtddchcekljndmaaGreat
open Go.ChangeShapes Go.WideShapes Go.ChangeAt Go.RowKit
namespace Pk
open Ba

theorem ab_no {lo hi : Int} {l : List Int} {k : Nat} (hk : k < l.length) (h : nth l k < lo ∨ hi < nth l k) : ab lo hi l = false := by
  rw [← Bool.not_eq_true]
  intro e
  have := ab_nth.1 e k hk
  omega
theorem ne_long {p d : List Int} (h : 200 < p.length ∨ 64 < d.length) : ne p d = 2 := by
  unfold ne
  have : (decide (200 < p.length) || decide (64 < d.length)) = true := by simp; omega
  rw [this]
  rfl
theorem ne_4 {p d : List Int} (h1 : p.length ≤ 200) (h2 : d.length ≤ 64) (h : ab (-1) 1000 p = false ∨ ab 0 1000 d = false) : ne p d = 4 := by
  unfold ne
  have : (decide (200 < p.length) || decide (64 < d.length)) = false := by simp; omega
  rw [this]
  rcases h with h | h <;> rw [h] <;> simp
theorem ne_0 {p d : List Int} (h1 : p.length ≤ 200) (h2 : d.length ≤ 64) (h3 : ab (-1) 1000 p = true) (h4 : ab 0 1000 d = true) : ne p d = 0 := by
  unfold ne
  have : (decide (200 < p.length) || decide (64 < d.length)) = false := by simp; omega
  rw [this, h3, h4]
  rfl

/-- what the reference's New answers -/
def RN (w : World) (N : Nat) (p d : List Int) (r : Ending) (w' : World) : Prop :=
  (ne p d ≠ 0 ∧ r = .returned (.tuple #[.pointer none, .int .i64 (ne p d)]) ∧ w' = w) ∨ (ne p d = 0 ∧ r = .returned (.tuple #[.pointer (some ⟨w.heap.size, 0, none⟩), .int .i64 0]) ∧ RCur w' w.heap.size N p d ∧ Below w.heap.size w w')

set_option maxHeartbeats 3200000 in
theorem rnew_any (oa ob : Option Addr) (p d : List Int) (c e N : Nat) (w : World) (nA : 0 < p.length → ∀ a, oa = some a → a.block < N) (nB : 0 < d.length → ∀ a, ob = some a → a.block < N) (hA : At w oa p) (hB : At w ob d) (hp : p.length ≤ maxLen) (hd : d.length ≤ maxLen) :
    Calls Tryz.prog 29 #[.slice oa p.length c, .slice ob d.length e] w fun r w' => RN w N p d r w' := by
  have HA := hide hA
  have HB := hide hB
  have NA := hide nA
  have NB := hide nB
  unfold maxLen at hp hd
  clear hA hB nA nB
  by_cases h1 : 200 < p.length
  · have g1 : decide (200 < (p.length : Int)) = true := by simp; omega
    have E := hide (ne_long (p := p) (d := d) (.inl h1))
    go_enter Tryz.func29, Tryz.ntmps29
    go_wp2_with fail
    go_ret2
    exact .inl ⟨by rw [E.out]; decide, by rw [E.out]; rfl, rfl⟩
  have g1 : decide (200 < (p.length : Int)) = false := by simp; omega
  by_cases h2 : 64 < d.length
  · have g2 : decide (64 < (d.length : Int)) = true := by simp; omega
    have E := hide (ne_long (p := p) (d := d) (.inr h2))
    go_enter Tryz.func29, Tryz.ntmps29
    go_wp2_with fail
    go_ret2
    exact .inl ⟨by rw [E.out]; decide, by rw [E.out]; rfl, rfl⟩
  have g2 : decide (64 < (d.length : Int)) = false := by simp; omega
  go_enter Tryz.func29, Tryz.ntmps29
  go_wp2_with fail
  go_loop [20] (fun i => ∃ k : Nat, k ≤ p.length ∧ i = .int .i64 k ∧ ∀ j, j < k → -1 ≤ nth p j ∧ nth p j ≤ 1000) (fun i => p.length - (intOf i).toNat)
  case atStart => exact ⟨0, Nat.zero_le _, rfl, fun j hj => absurd hj (Nat.not_lt_zero _)⟩
  case round =>
    obtain ⟨k, hk, rfl, hall⟩ := hrel
    have HE := hide hall
    clear hall
    by_cases hlt : k < p.length
    · obtain ⟨b1, o1, rfl, hc1⟩ := HA.out k hlt
      have hlt' : (k : Int) < (p.length : Int) := by omega
      cases e1 : decide (nth p k < -1)
      · cases e2 : decide (1000 < nth p k)
        · have HX : Hid (-1 ≤ nth p k ∧ nth p k ≤ 1000) := by show _ ∧ _; simp at e1 e2; omega
          go_wp2_with fail
          go_round
          case rel => exact ⟨k + 1, by omega, by go_num, fun j hj => by
            by_cases e : j = k
            · subst e; exact HX.out
            · exact HE.out j (by omega)⟩
          case measure => simp [intOf]; omega
        · have E : Hid (ne p d = 4) := ne_4 (by omega) (by omega) (.inl (ab_no hlt (.inr (by simpa using e2))))
          go_wp2_with fail
          go_ret2
          exact .inl ⟨by rw [E.out]; decide, by rw [E.out]; rfl, rfl⟩
      · have E : Hid (ne p d = 4) := ne_4 (by omega) (by omega) (.inl (ab_no hlt (.inl (by simpa using e1))))
        go_wp2_with fail
        go_ret2
        exact .inl ⟨by rw [E.out]; decide, by rw [E.out]; rfl, rfl⟩
    · have hlt' : ¬ ((k : Int) < (p.length : Int)) := by omega
      have AP : Hid (ab (-1) 1000 p = true) := ab_nth.2 fun j hj => HE.out j (by omega)
      clear HE
      go_wp2_with fail
      go_loop [33] (fun i => ∃ k : Nat, k ≤ d.length ∧ i = .int .i64 k ∧ ∀ j, j < k → 0 ≤ nth d j ∧ nth d j ≤ 1000) (fun i => d.length - (intOf i).toNat)
      case atStart => exact ⟨0, Nat.zero_le _, rfl, fun j hj => absurd hj (Nat.not_lt_zero _)⟩
      case round =>
        obtain ⟨i, hi, rfl, hall⟩ := hrel
        have HE := hide hall
        clear hall
        by_cases hil : i < d.length
        · obtain ⟨b1, o1, rfl, hc1⟩ := HB.out i hil
          have hil' : (i : Int) < (d.length : Int) := by omega
          cases e1 : decide (nth d i < 0)
          · cases e2 : decide (1000 < nth d i)
            · have HX : Hid (0 ≤ nth d i ∧ nth d i ≤ 1000) := by show _ ∧ _; simp at e1 e2; omega
              go_wp2_with fail
              go_round
              case rel => exact ⟨i + 1, by omega, by go_num, fun j hj => by
                by_cases e : j = i
                · subst e; exact HX.out
                · exact HE.out j (by omega)⟩
              case measure => simp [intOf]; omega
            · have E : Hid (ne p d = 4) := ne_4 (by omega) (by omega) (.inr (ab_no hil (.inr (by simpa using e2))))
              go_wp2_with fail
              go_ret2
              exact .inl ⟨by rw [E.out]; decide, by rw [E.out]; rfl, rfl⟩
          · have E : Hid (ne p d = 4) := ne_4 (by omega) (by omega) (.inr (ab_no hil (.inl (by simpa using e1))))
            go_wp2_with fail
            go_ret2
            exact .inl ⟨by rw [E.out]; decide, by rw [E.out]; rfl, rfl⟩
        · have hil' : ¬ ((i : Int) < (d.length : Int)) := by omega
          have AD : Hid (ab 0 1000 d = true) := ab_nth.2 fun j hj => HE.out j (by omega)
          clear HE
          go_wp2_with fail
          go_ret2
          refine .inr ⟨ne_0 (by omega) (by omega) AP.out AD.out, rfl, ?_, below_alloc _ _⟩
          exact ⟨oa, c, ob, e, 0, 0, p, d, heap_new _ _, ⟨HA.out.below (below_alloc _ _), Nat.zero_le _, rfl, by omega, NA.out⟩, HB.out.below (below_alloc _ _), Nat.zero_le _, rfl, by omega, NB.out⟩
end Pk
end Go.Proofs.YtddchcekljndmaaGreat
/- The reference's loom in memory: its parts, each of a colour of its own; the channels' names. -/
namespace Go.Proofs.YtddchcekljndmaaGreat
open Go.ChangeShapes Go.WideShapes Go.ChangeAt Go.RowKit
namespace Rlo
open Ba Lo

/-- what is of a colour from 6 on has not changed, and has its colour still -/
structure Tq (col col' : Nat → Nat) (w w' : World) : Prop where
  os : w'.os = w.os
  tape : w'.tape = w.tape
  output : w'.output = w.output
  size : w.heap.size ≤ w'.heap.size
  block : ∀ x, x < w.heap.size → 6 ≤ col x → w'.heap[x]? = w.heap[x]?
  old : ∀ x, x < w.heap.size → 6 ≤ col x → col' x = col x
theorem tq_of {K : Nat → Prop} {col col' : Nat → Nat} {w w' : World} (h : Ch K col col' w w') (hk : ∀ c, K c → c < 6) : Tq col col' w w' :=
  ⟨h.os, h.tape, h.output, h.size, fun x hx hc => h.block x hx (fun e => by have := hk _ e; omega), fun x hx _ => h.old x hx⟩
theorem Tq.refl (col : Nat → Nat) (w : World) : Tq col col w w := ⟨rfl, rfl, rfl, Nat.le_refl _, fun _ _ _ => rfl, fun _ _ _ => rfl⟩
theorem Tq.trans {c1 c2 c3 : Nat → Nat} {a b c : World} (h : Tq c1 c2 a b) (k : Tq c2 c3 b c) : Tq c1 c3 a c :=
  ⟨k.os.trans h.os, k.tape.trans h.tape, k.output.trans h.output, Nat.le_trans h.size k.size,
    fun x hx hc => (k.block x (Nat.lt_of_lt_of_le hx h.size) (by rw [h.old x hx hc]; exact hc)).trans (h.block x hx hc),
    fun x hx hc => (k.old x (Nat.lt_of_lt_of_le hx h.size) (by rw [h.old x hx hc]; exact hc)).trans (h.old x hx hc)⟩
theorem Tq.heap {col col' : Nat → Nat} {w w' : World} (h : Tq col col' w w') {x : Nat} {o : Obj} (hx : w.heap[x]? = some o) (hc : col x = 7) : w'.heap[x]? = some o := (h.block x (heap_lt hx) (by omega)).trans hx
theorem Tq.cell {col col' : Nat → Nat} {w w' : World} (h : Tq col col' w w') {b k : Nat} {v : Value} (hx : w.cell? ⟨b, k, none⟩ = some v) (hc : 6 ≤ col b) : w'.cell? ⟨b, k, none⟩ = some v := by
  have := h.block b (World.block_lt_of_cell? w _ hx) hc
  rw [← hx]
  simp only [World.cell?, this]
/-- what a loom keeps of its script beside the programs -/
structure Hd where
  t : Int
  m : Int
  la : Option Addr
  ln : Nat
  lc : Nat
  da : Option Addr
  dn : Nat
  dc : Nat
/-- the cells of a loom -/
def rcs (q : Hd) (pa : Option Addr) (n pc C B : Nat) (oa : Option Addr) (cn oc : Nat) (nm : List Int) (ta : Option Addr) (tn tc : Nat) (pk : Bool) : Array Value :=
  #[.int .i64 q.t, .int .i64 q.m, .slice pa n pc, .slice q.la q.ln q.lc, .slice q.da q.dn q.dc, .pointer (some ⟨C, 0, none⟩), .pointer (some ⟨B, 0, none⟩), .slice oa cn oc, .int .i64 (nth nm 0), .int .i64 (nth nm 1), .int .i64 (nth nm 2), .int .i64 (nth nm 3), .int .i64 (nth nm 4), .int .i64 (nth nm 5), .int .i64 (nth nm 6), .int .i64 (nth nm 7), .slice ta tn tc, .bool pk]
/-- all channels, by the names -/
def vw {α : Type} (nm : List Int) (l : List (Option α)) : List (Option α) := nm.map fun n => if n < 0 then none else (l[n.toNat]?).join
theorem vw_len {α : Type} (nm : List Int) (l : List (Option α)) : (vw nm l).length = nm.length := by simp [vw]
theorem nth_get {l : List Int} {i : Nat} (h : i < l.length) : l[i]? = some (nth l i) := by
  rw [List.getElem?_eq_getElem h]
  simp [nth, List.getElem?_eq_getElem h]
theorem vw_at {α : Type} {nm : List Int} {l : List (Option α)} {i : Nat} (h : i < nm.length) : (vw nm l)[i]? = some (if nth nm i < 0 then none else (l[(nth nm i).toNat]?).join) := by
  simp [vw, nth_get h]
/-- names: each of at most one channel of k, each channel has at most one name -/
structure NI (nm : List Int) (k : Nat) : Prop where
  len : nm.length = 8
  lt : ∀ i, i < 8 → nth nm i < (k : Int)
  ge : ∀ i, i < 8 → -1 ≤ nth nm i
  inj : ∀ i j, i < 8 → j < 8 → 0 ≤ nth nm i → nth nm i = nth nm j → i = j
structure RX (w : World) (col : Nat → Nat) (L N C B : Nat) (FB : Nat → Prop) (q : Hd) (pa : Option Addr) (pc : Nat) (oa : Option Addr) (oc : Nat) (bs : List (Option Nat)) (Fs : Nat → Nat → Prop) (cs : List (Option St)) (ta : Option Addr) (tc : Nat) (s : Lm) : Prop where
  hp : w.heap[L]? = some (.cells (rcs q pa s.ps.length pc C B oa bs.length oc s.nm ta s.tr.length tc s.pk) 55 (0, 0))
  ps : ∃ w0, w0.heap.size ≤ N ∧ Below w0.heap.size w0 w ∧ Sh.PAt w0 pa s.ps
  cu : Pk.RCur w C N s.p s.d
  nc : N ≤ C
  cr : Cr.RC w B FB s.cr
  rw : w.ownsRow 0 126 1 (.slice oa bs.length oc) bs.length (bs.map Pe.pt)
  qs : Fk.Qs Rp.Rr w oa bs Fs cs
  ni : NI s.nm bs.length
  md : s.md = (bs.length : Int)
  vs : s.sts = vw s.nm cs
  tr : w.ownsRow 0 66 8 (.slice ta s.tr.length tc) s.tr.length (ec s.tr)
  c0 : col L = 0
  c1 : col C = 1
  c2 : ∀ x, FB x → col x = 2
  c3 : ∀ g, (Value.slice oa bs.length oc).ownBlock = some g → col g = 3
  c4 : ∀ i x, Fs i x → col x = 4
  c5 : ∀ g, (Value.slice ta s.tr.length tc).ownBlock = some g → col g = 5
  c6 : ∀ x, x < N → col x = 6
/-- the reference's loom in block L -/
def RW (w : World) (col : Nat → Nat) (L N : Nat) (s : Lm) : Prop := ∃ C B FB q pa pc oa oc bs Fs cs ta tc, RX w col L N C B FB q pa pc oa oc bs Fs cs ta tc s
theorem rcur_keep {w w' : World} {R N : Nat} {p d : List Int} (h : Pk.RCur w R N p d) (h1 : w'.heap[R]? = w.heap[R]?) (h2 : ∀ x, x < N → x < w.heap.size → w'.heap[x]? = w.heap[x]?) : Pk.RCur w' R N p d := by
  have ak : ∀ {oa : Option Addr} {l : List Int}, At w oa l → (0 < l.length → ∀ a, oa = some a → a.block < N) → At w' oa l := by
    intro oa l h hn j hj
    obtain ⟨b, off, rfl, hc⟩ := h j hj
    refine ⟨b, off, rfl, ?_⟩
    have := h2 b (hn (by omega) _ rfl) (World.block_lt_of_cell? w _ hc)
    rw [← hc]
    simp only [World.cell?, this]
  obtain ⟨oa, ca, ob, cb, P, D, p0, d0, q0, ⟨q1, q2, q3, q4, q5⟩, q6, q7, q8, q9, q10⟩ := h
  exact ⟨oa, ca, ob, cb, P, D, p0, d0, h1.trans q0, ⟨ak q1 q5, q2, q3, q4, q5⟩, ak q6 q10, q7, q8, q9, q10⟩
theorem rcur_lt {w : World} {R N : Nat} {p d : List Int} (h : Pk.RCur w R N p d) : R < w.heap.size := by
  obtain ⟨oa, ca, ob, cb, P, D, p0, d0, q0, _⟩ := h
  exact heap_lt q0
section
variable {w w' : World} {col col' : Nat → Nat} {L N C B : Nat} {FB : Nat → Prop} {q : Hd} {pa : Option Addr} {pc : Nat} {oa : Option Addr} {oc : Nat} {bs : List (Option Nat)} {Fs : Nat → Nat → Prop} {cs : List (Option St)} {ta : Option Addr} {tc : Nat} {s : Lm} {K : Nat → Prop}
theorem RX.lw (h : RX w col L N C B FB q pa pc oa oc bs Fs cs ta tc s) : RW w col L N s := ⟨C, B, FB, q, pa, pc, oa, oc, bs, Fs, cs, ta, tc, h⟩
theorem RX.lt (h : RX w col L N C B FB q pa pc oa oc bs Fs cs ta tc s) : L < w.heap.size := heap_lt h.hp
theorem RX.blk {g : Nat} (h : RX w col L N C B FB q pa pc oa oc bs Fs cs ta tc s) (e : (Value.slice oa bs.length oc).ownBlock = some g) : g < w.heap.size := by
  obtain ⟨_, cur, hc⟩ := Cr.own_blk h.rw g e
  exact heap_lt hc
theorem RX.blt {g : Nat} (h : RX w col L N C B FB q pa pc oa oc bs Fs cs ta tc s) (e : (Value.slice ta s.tr.length tc).ownBlock = some g) : g < w.heap.size := by
  obtain ⟨_, cur, hc⟩ := Cr.own_blk h.tr g e
  exact heap_lt hc
theorem RX.keepHp (h : RX w col L N C B FB q pa pc oa oc bs Fs cs ta tc s) (c : Ch K col col' w w') (hk : ¬ K 0) : w'.heap[L]? = some (.cells (rcs q pa s.ps.length pc C B oa bs.length oc s.nm ta s.tr.length tc s.pk) 55 (0, 0)) :=
  (c.block L h.lt (by rw [h.c0]; exact hk)).trans h.hp
theorem RX.keepPs (h : RX w col L N C B FB q pa pc oa oc bs Fs cs ta tc s) (c : Ch K col col' w w') (hk : ¬ K 6) : ∃ w0, w0.heap.size ≤ N ∧ Below w0.heap.size w0 w' ∧ Sh.PAt w0 pa s.ps := by
  obtain ⟨w0, h0, b0, p0⟩ := h.ps
  refine ⟨w0, h0, ⟨c.os.trans b0.os, c.tape.trans b0.tape, c.output.trans b0.output, Nat.le_trans b0.size c.size, fun x hx => ?_⟩, p0⟩
  exact (c.block x (Nat.lt_of_lt_of_le hx b0.size) (by rw [h.c6 x (Nat.lt_of_lt_of_le hx h0)]; exact hk)).trans (b0.block x hx)
theorem RX.keepCu (h : RX w col L N C B FB q pa pc oa oc bs Fs cs ta tc s) (c : Ch K col col' w w') (hk : ¬ K 1) (h6 : ¬ K 6) : Pk.RCur w' C N s.p s.d :=
  rcur_keep h.cu (c.block C (rcur_lt h.cu) (by rw [h.c1]; exact hk)) (fun x hx hl => c.block x hl (by rw [h.c6 x hx]; exact h6))
theorem RX.keepCr (h : RX w col L N C B FB q pa pc oa oc bs Fs cs ta tc s) (c : Ch K col col' w w') (hk : ¬ K 2) : Cr.RC w' B FB s.cr := by
  obtain ⟨oa, cc, hw⟩ := h.cr
  exact ⟨oa, cc, hw.sm fun x hx => c.block x (hw.bd x hx) (by rw [h.c2 x hx]; exact hk)⟩
theorem RX.keepRw (h : RX w col L N C B FB q pa pc oa oc bs Fs cs ta tc s) (c : Ch K col col' w w') (hk : ¬ K 3) : w'.ownsRow 0 126 1 (.slice oa bs.length oc) bs.length (bs.map Pe.pt) :=
  Cr.own_keep h.rw fun g e => c.block g (h.blk e) (by rw [h.c3 g e]; exact hk)
theorem own_row {e : TypeId} {base : Nat} (h : w.ownsRow base e 1 (.slice oa bs.length oc) bs.length (bs.map Pe.pt)) : Fk.PR w oa bs ∧ ∀ a, oa = some a → (Value.slice oa bs.length oc).ownBlock = some a.block := by
  rcases h.2 with ⟨e0, h0⟩ | ⟨g, cap, cur, e0, hbase, hg, hc, _, hcs, htk⟩
  · obtain rfl := List.eq_nil_of_length_eq_zero h0
    cases e0
    exact ⟨fun i o hi => by simp at hi, fun a e => by cases e⟩
  · cases e0
    refine ⟨fun k o hk => ?_, fun a e => by cases e; rfl⟩
    have hkl := (List.getElem?_eq_some_iff.1 hk).1
    refine ⟨g, 0, rfl, ?_⟩
    have q : (bs.map Pe.pt)[k]? = some (Pe.pt o) := by simp [hk]
    rw [← htk, List.getElem?_take_of_lt (by omega)] at q
    rw [Nat.zero_add, cell_of hg]
    simpa using q
theorem RX.keepQs (h : RX w col L N C B FB q pa pc oa oc bs Fs cs ta tc s) (c : Ch K col col' w w') (hk : ¬ K 4) (h3 : ¬ K 3) : Fk.Qs Rp.Rr w' oa bs Fs cs :=
  h.qs.keep Fk.frR (fun i x hx => c.block x (h.qs.bd i x hx) (by rw [h.c4 i x hx]; exact hk)) (fun a e hl => c.block _ hl (by rw [h.c3 _ ((own_row h.rw).2 a e)]; exact h3))
theorem RX.keepTr (h : RX w col L N C B FB q pa pc oa oc bs Fs cs ta tc s) (c : Ch K col col' w w') (hk : ¬ K 5) : w'.ownsRow 0 66 8 (.slice ta s.tr.length tc) s.tr.length (ec s.tr) :=
  Cr.own_keep h.tr fun g e => c.block g (h.blt e) (by rw [h.c5 g e]; exact hk)
theorem RX.k0 (h : RX w col L N C B FB q pa pc oa oc bs Fs cs ta tc s) (c : Ch K col col' w w') : col' L = 0 := (c.old L h.lt).trans h.c0
theorem RX.k1 (h : RX w col L N C B FB q pa pc oa oc bs Fs cs ta tc s) (c : Ch K col col' w w') : col' C = 1 := (c.old C (rcur_lt h.cu)).trans h.c1
theorem RX.k2 (h : RX w col L N C B FB q pa pc oa oc bs Fs cs ta tc s) (c : Ch K col col' w w') : ∀ x, FB x → col' x = 2 := fun x hx => (c.old x (h.cr.bd x hx)).trans (h.c2 x hx)
theorem RX.k3 (h : RX w col L N C B FB q pa pc oa oc bs Fs cs ta tc s) (c : Ch K col col' w w') : ∀ g, (Value.slice oa bs.length oc).ownBlock = some g → col' g = 3 := fun g e => (c.old g (h.blk e)).trans (h.c3 g e)
theorem RX.k4 (h : RX w col L N C B FB q pa pc oa oc bs Fs cs ta tc s) (c : Ch K col col' w w') : ∀ i x, Fs i x → col' x = 4 := fun i x hx => (c.old x (h.qs.bd i x hx)).trans (h.c4 i x hx)
theorem RX.k5 (h : RX w col L N C B FB q pa pc oa oc bs Fs cs ta tc s) (c : Ch K col col' w w') : ∀ g, (Value.slice ta s.tr.length tc).ownBlock = some g → col' g = 5 := fun g e => (c.old g (h.blt e)).trans (h.c5 g e)
theorem RX.k6 (h : RX w col L N C B FB q pa pc oa oc bs Fs cs ta tc s) (c : Ch K col col' w w') : ∀ x, x < N → col' x = 6 := fun x hx => (c.old x (by have := rcur_lt h.cu; have := h.nc; omega)).trans (h.c6 x hx)
/-- what is foreign has changed -/
theorem RX.keep (h : RX w col L N C B FB q pa pc oa oc bs Fs cs ta tc s) (c : Ch (fun c => c = 7) col col' w w') : RX w' col' L N C B FB q pa pc oa oc bs Fs cs ta tc s :=
  ⟨h.keepHp c (by simp), h.keepPs c (by simp), h.keepCu c (by simp) (by simp), h.nc, h.keepCr c (by simp), h.keepRw c (by simp), h.keepQs c (by simp) (by simp), h.ni, h.md, h.vs, h.keepTr c (by simp), h.k0 c, h.k1 c, h.k2 c, h.k3 c, h.k4 c, h.k5 c, h.k6 c⟩
theorem RX.below (h : RX w col L N C B FB q pa pc oa oc bs Fs cs ta tc s) (hb : Below w.heap.size w w') : ∃ col', RX w' col' L N C B FB q pa pc oa oc bs Fs cs ta tc s ∧ Tq col col' w w' ∧ ∀ x, w.heap.size ≤ x → col' x = 7 := by
  obtain ⟨col', o, _, n⟩ := ext_ex w col (fun _ => False) 7
  exact ⟨col', h.keep (ch_below _ hb o), tq_of (ch_below (fun _ => False) hb o) (fun _ e => e.elim), fun x hx => n x hx (fun h => h)⟩
theorem RX.drew (h : RX w col L N C B FB q pa pc oa oc bs Fs cs ta tc s) : RX w.drew col L N C B FB q pa pc oa oc bs Fs cs ta tc s := h.keep (ch_below _ (bdrew1 w) (fun _ _ => rfl))
/-- the crew has changed -/
theorem RX.crew {l : List Mb} (h : RX w col L N C B FB q pa pc oa oc bs Fs cs ta tc s) (p : Cr.Po 59 63 w w' B FB l) : ∃ FB' col', RX w' col' L N C B FB' q pa pc oa oc bs Fs cs ta tc { s with cr := l } ∧ Tq col col' w w' := by
  obtain ⟨F', p, kf, nw⟩ := p
  obtain ⟨col', o, n, _⟩ := ext_ex w col F' 2
  have c : Ch (fun c => c = 2) col col' w w' := ⟨kf.os, kf.tape, kf.output, kf.size, fun x hx hc => kf.block x hx (fun e => hc (h.c2 x e)), o⟩
  refine ⟨F', col', ⟨h.keepHp c (by simp), h.keepPs c (by simp), h.keepCu c (by simp) (by simp), h.nc, p, h.keepRw c (by simp), h.keepQs c (by simp) (by simp), h.ni, h.md, h.vs, h.keepTr c (by simp), h.k0 c, h.k1 c, fun x hx => ?_, h.k3 c, h.k4 c, h.k5 c, h.k6 c⟩, tq_of c (fun _ (e : _ = _) => by omega)⟩
  rcases Nat.lt_or_ge x w.heap.size with e | e
  · rcases nw x hx with z | z
    · exact h.k2 c x z
    · omega
  · exact n x e hx
/-- the cursor has changed -/
theorem RX.cursor {p d : List Int} (h : RX w col L N C B FB q pa pc oa oc bs Fs cs ta tc s) (r : Pk.RCur w' C N p d) (kb : KB C w w') : ∃ col', RX w' col' L N C B FB q pa pc oa oc bs Fs cs ta tc { s with p := p, d := d } ∧ Tq col col' w w' := by
  obtain ⟨col', o, _, _⟩ := ext_ex w col (fun _ => False) 7
  have c : Ch (fun c => c = 1) col col' w w' := ⟨kb.os, kb.tape, kb.output, kb.size, fun x hx hc => kb.block x hx (fun e => hc (by rw [e]; exact h.c1)), o⟩
  exact ⟨col', ⟨h.keepHp c (by simp), h.keepPs c (by simp), r, h.nc, h.keepCr c (by simp), h.keepRw c (by simp), h.keepQs c (by simp) (by simp), h.ni, h.md, h.vs, h.keepTr c (by simp), h.k0 c, h.k1 c, h.k2 c, h.k3 c, h.k4 c, h.k5 c, h.k6 c⟩, tq_of c (fun _ (e : _ = _) => by omega)⟩
/-- it has panicked -/
theorem RX.panic (h : RX w col L N C B FB q pa pc oa oc bs Fs cs ta tc s) : RX (w.setCell ⟨L, 17, none⟩ (.bool true)) col L N C B FB q pa pc oa oc bs Fs cs ta tc { s with pk := true } ∧ Tq col col w (w.setCell ⟨L, 17, none⟩ (.bool true)) := by
  have kb := (KB.refl L w).setCell 17 (.bool true)
  have c : Ch (fun c => c = 0) col col w (w.setCell ⟨L, 17, none⟩ (.bool true)) := ⟨kb.os, kb.tape, kb.output, kb.size, fun x hx hc => kb.block x hx (fun e => hc (by rw [e]; exact h.c0)), fun _ _ => rfl⟩
  refine ⟨⟨?_, h.keepPs c (by simp), h.keepCu c (by simp) (by simp), h.nc, h.keepCr c (by simp), h.keepRw c (by simp), h.keepQs c (by simp) (by simp), h.ni, h.md, h.vs, h.keepTr c (by simp), h.k0 c, h.k1 c, h.k2 c, h.k3 c, h.k4 c, h.k5 c, h.k6 c⟩, tq_of c (fun _ (e : _ = _) => by omega)⟩
  rw [Ba.heap_setCell_same h.hp]
  rfl
/-- a cell of a block that is no part of the loom is laid -/
theorem RX.temp {z i : Nat} {v : Value} (h : RX w col L N C B FB q pa pc oa oc bs Fs cs ta tc s) (hz : col z = 7) : RX (w.setCell ⟨z, i, none⟩ v) col L N C B FB q pa pc oa oc bs Fs cs ta tc s := by
  have kb := (KB.refl z w).setCell i v
  exact h.keep ⟨kb.os, kb.tape, kb.output, kb.size, fun x hx hc => kb.block x hx (fun e => hc (by rw [e]; exact hz)), fun _ _ => rfl⟩
end
end Rlo
end Go.Proofs.YtddchcekljndmaaGreat
