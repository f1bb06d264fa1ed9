/- make and copy of rows of whatever cells. -/
import Derived.Test.YtgnhophlnbpcgaaBa
import Derived.Laws.CopyRow
import Derived.Laws.IdiomCopy
namespace Go.Proofs.Ytgnhophlnbpcgaa
open Go.ChangeShapes Go.WideShapes Go.ChangeAt Go.RowKit
namespace Ba

/-- the cells from oa on are cs -/
def CsAt (w : World) (oa : Option Addr) (cs : List Value) : Prop := ∀ j v, cs[j]? = some v → ∃ b off, oa = some ⟨b, off, none⟩ ∧ w.cell? ⟨b, off + j, none⟩ = some v
theorem CsAt.below {w w' : World} {oa : Option Addr} {cs : List Value} (h : CsAt w oa cs) (hb : Below w.heap.size w w') : CsAt w' oa cs := by
  intro j v hj
  obtain ⟨b, off, he, hc⟩ := h j v hj
  exact ⟨b, off, he, (hb.cell (World.block_lt_of_cell? w _ hc)).trans hc⟩
theorem run_mkG {t e : TypeId} {i : TypeInfo} {z : Value} (ht : Try.prog.underlying t = some (.slice e)) (hi : Try.prog.info? e = some i) (hz : i.zero = some z) (w : World) (n : Nat) (hb : n * i.bytes ≤ 1000000000) (hn : n ≤ 1000000000) :
    (Instr.makeSlice t (.int .i64 (n : Int)) (.int .i64 (n : Int))).run Try.prog w = .ok (.slice (some ⟨w.heap.size, 0, none⟩) n n) (w.alloc (.cells (madeCells z.cells (n * i.size)) e)) := by
  have := run_make (P := Try.prog) w t e i z ht hi hz .i64 .i64 n n (by omega) (Int.le_refl _) (by rw [← Int.natCast_mul, Nat.mul_comm]; omega) (by omega)
  rw [Int.toNat_natCast] at this
  exact this
theorem run_cpG {t e : TypeId} {i : TypeInfo} {z : Value} (ht : Try.prog.underlying t = some (.slice e)) (hi : Try.prog.info? e = some i) (ty : TypeId) (w : World) (oa : Option Addr) (n c : Nat) (cs : List Value) (hl : cs.length = n * i.size) (hA : CsAt w oa cs) (h1 : ∀ v ∈ cs, v.oneCell' = true) (hs : 0 < i.size) :
    (Builtin.copy_ #[t, t] ty #[.slice (some ⟨w.heap.size, 0, none⟩) n n, .slice oa n c]).run Try.prog (w.alloc (.cells (madeCells z.cells (n * i.size)) e)) = .ok (goInt n) (w.alloc (.cells cs.toArray e)) := by
  have hfirst : (Builtin.firstCells i.size n (.slice oa n c)).run Try.prog (w.alloc (.cells (madeCells z.cells (n * i.size)) e)) = .ok cs.toArray (w.alloc (.cells (madeCells z.cells (n * i.size)) e)) := by
    cases oa with
    | none =>
      have h0 : cs = [] := by
        cases cs with
        | nil => rfl
        | cons v t =>
          obtain ⟨_, _, he, _⟩ := hA 0 v rfl
          cases he
      have hn : n = 0 := by
        rw [h0, List.length_nil] at hl
        rcases Nat.mul_eq_zero.1 hl.symm with q | q
        · exact q
        · omega
      subst h0 hn
      exact run_firstCells_none _ _ _ _ _
    | some a =>
      refine run_firstCells_some _ _ _ a n c cs hl ?_
      intro j v hj
      obtain ⟨b, off, he, hc⟩ := hA.below (below_alloc w (.cells (madeCells z.cells (n * i.size)) e)) j v hj
      cases he
      rw [Addr.add_lit]
      exact hc
  have hst := run_storeCells_at Try.prog w.heap.size 0 e cs 0 (madeCells z.cells (n * i.size)) (w.alloc (.cells (madeCells z.cells (n * i.size)) e)) (heap_new _ _) (by rw [size_madeCells]; omega) h1
  have hd : (madeCells z.cells (n * i.size)).toList.drop (0 + 0 + cs.length) = [] := by
    apply List.drop_eq_nil_of_le
    rw [Array.length_toList, size_madeCells]
    omega
  rw [setRow_new, hd] at hst
  simp only [Nat.add_zero, List.take_zero, List.nil_append, List.append_nil] at hst
  simp [Builtin.copy_, run_underlying ht, Builtin.lenOf, sizeOf, typeInfo, hi, hfirst, hst]
theorem at_cs {w : World} {oa : Option Addr} {l : List Int} (h : At w oa l) : CsAt w oa (l.map (Value.int .i64)) := by
  intro j v hj
  have hjl : j < l.length := by
    have := (List.getElem?_eq_some_iff.1 hj).1
    simpa using this
  obtain ⟨b, off, he, hc⟩ := h j hjl
  refine ⟨b, off, he, ?_⟩
  rw [hc, nth_lt l j hjl]
  rw [List.getElem?_map, List.getElem?_eq_getElem hjl] at hj
  exact hj
end Ba
end Go.Proofs.Ytgnhophlnbpcgaa
