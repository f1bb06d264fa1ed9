/- The law's ref(): a log as the reference has it. -/
import Derived.Test.YtgfnafipfbajcaaUqa
import Derived.Test.YtgfnafipfbajcaaRg
namespace Go.Proofs.Ytgfnafipfbajcaa
open Go.ChangeShapes Go.WideShapes Go.ChangeAt Go.RowKit
namespace Qu
open Ba Rk
open Ep (tidOf clkOf ownB rdN rdT rdt rdc rdk)

theorem qrd_any (e : Int) (a0 : 0 ≤ e) (a1 : e ≤ 18446744073709551615) (w : World) :
    Calls Try.prog 22 #[.int .i64 (e / 4294967296), .int .i64 (e % 4294967296)] w fun r w' => r = .returned (.tuple #[.agg #[.bool (rdN e), .bool (rdT e), .int .i64 (rdt e), .int .i64 (rdc e)], .bool (rdk e)]) ∧ Below w.heap.size w w' := by
  by_cases hn : e = 0
  · subst hn
    obtain ⟨e1, e2, e3, e4, e5⟩ := Ep.rd_none
    rw [e1, e2, e3, e4, e5]
    refine (Ep.rread_none w).mono ?_
    rintro r w' ⟨rfl, rfl⟩
    exact ⟨rfl, below_alloc _ _⟩
  by_cases ht : e = 18446744073709551615
  · subst ht
    obtain ⟨e1, e2, e3, e4, e5⟩ := Ep.rd_tail
    rw [e1, e2, e3, e4, e5]
    refine (Ep.rread_tail w).mono ?_
    rintro r w' ⟨rfl, rfl⟩
    exact ⟨rfl, below_alloc _ _⟩
  cases ho : ownB e
  · obtain ⟨e1, e2, e3, e4, e5⟩ := Ep.rd_bad e ho hn ht
    rw [e1, e2, e3, e4, e5]
    refine (Ep.rread_bad _ _ (by omega) (by omega) (Ep.not_bd e ho) w).mono ?_
    rintro r w' ⟨rfl, rfl⟩
    exact ⟨rfl, below_alloc _ _⟩
  · obtain ⟨e1, e2, e3, e4, e5⟩ := Ep.rd_own e ho
    obtain ⟨h0, h1, h2, h3⟩ := Ep.own_bd e ho
    rw [e1, e2, e3, e4, e5]
    refine (Ep.rread_own _ _ h0 h1 h2 h3 w).mono ?_
    rintro r w' ⟨rfl, rfl⟩
    exact ⟨rfl, below_alloc _ _⟩
theorem qpl_any (e : Int) (w : World) :
    Calls Try.prog 23 #[.agg #[.bool (rdN e), .bool (rdT e), .int .i64 (rdt e), .int .i64 (rdc e)], .bool (rdk e)] w fun r w' => r = .returned (.bool (ownB e)) ∧ Below w.heap.size w w' := by
  refine (Ep.plain_e e w).mono ?_
  rintro r w' ⟨rfl, rfl⟩
  exact ⟨rfl, below_alloc _ _⟩
/-- a stamp as the reference has it -/
def rfs (y : Sx) : Tx := ⟨tidOf y.e, clkOf y.e, y.oa, y.cap, y.c⟩
def tcl (x : Tx) : List Value := [.int .i64 x.t, .int .i64 x.n, .slice x.oa x.c.length x.cap]
def tcs (l : List Tx) : List Value := l.flatMap tcl
theorem tcs_len (l : List Tx) : (tcs l).length = l.length * 3 := by
  induction l with
  | nil => rfl
  | cons x l ih => show (tcl x ++ tcs l).length = _; rw [List.length_append, ih]; simp [tcl]; omega
theorem own_ta {w : World} {base : Nat} {e : TypeId} {v : Value} {l : List Tx} (h : w.ownsRow base e 3 v l.length (tcs l)) (hA : ∀ x ∈ l, At w x.oa x.c) : ∃ oa c, v = .slice oa l.length c ∧ TA w oa l := by
  rcases h.2 with ⟨rfl, h0⟩ | ⟨g, cap, cur, rfl, _, hg, hc, hm, hcs, htk⟩
  · refine ⟨none, 0, by rw [h0], ?_⟩
    obtain rfl := List.eq_nil_of_length_eq_zero h0
    exact GAt.nil _ _ _ _
  · refine ⟨_, cap, rfl, fun k x hk => ⟨g, 0, tcl x, rfl, rfl, fun j hj => ?_, rfl, hA x (List.mem_of_getElem? hk)⟩⟩
    have hkl := (List.getElem?_eq_some_iff.1 hk).1
    have q := fm_at (f := tcl) (m := 3) (fun _ => rfl) l k x hk j hj
    have q2 : (tcs l)[k * 3 + j]? = (tcl x)[j]? := q
    rw [← htk, List.getElem?_take_of_lt (by omega)] at q2
    rw [Nat.zero_add, cell_of hg]
    simpa using q2
/-- while it is laid -/
structure LP (w wr : World) (oe os od : Option Addr) (le ce ls cs ld cd : Nat) (v : Value) (n : Nat) (xs : List Value) (u : Value) (m : Nat) (ys : List Value) : Prop where
  h1 : wr.heap[w.heap.size]? = some (.cells #[.slice oe le ce, .slice os ls cs, .slice od ld cd] 26 (0, 0))
  h2 : wr.heap[w.heap.size + 1]? = some (.cells #[.slice none 0 0, .slice none 0 0, .slice none 0 0] 37 (0, 0))
  h3 : wr.heap[w.heap.size + 2]? = some (.cells #[.slice oe le ce, v, u] 37 (0, 0))
  ov : wr.ownsRow w.heap.size 66 3 v n xs
  ou : wr.ownsRow w.heap.size 73 6 u m ys
  b : Below w.heap.size w wr
theorem LP.below {w a b : World} {oe os od : Option Addr} {le ce ls cs ld cd : Nat} {v : Value} {n : Nat} {xs : List Value} {u : Value} {m : Nat} {ys : List Value} (h : LP w a oe os od le ce ls cs ld cd v n xs u m ys) (k : Below a.heap.size a b) : LP w b oe os od le ce ls cs ld cd v n xs u m ys :=
  ⟨heap_below h.h1 k, heap_below h.h2 k, heap_below h.h3 k, own_below h.ov k, own_below h.ou k, btr h.b k⟩
end Qu
end Go.Proofs.Ytgfnafipfbajcaa
