/- The reference's clock as a whole: zero, load and store of 256 numbers, over this seat's program. -/
import Derived.Test.YtakbbhngcdccpaaGreatRl
namespace Go.Proofs.YtakbbhngcdccpaaGreat
open Go.ChangeShapes Go.WideShapes Go.ChangeAt Go.RowKit
namespace Ck

/-- noughts -/
def nf : Nat → Int := fun _ => 0
theorem ra_one (F : Nat → Int) : (ra F).all (·.oneCell') = true := by
  apply all_oneCell_toArray
  intro v hv
  simp at hv
  obtain ⟨k, _, rfl⟩ := hv
  rfl
/-- 256 cells, read one behind the other -/
theorem ld_ref {w : World} {b off : Nat} {F : Nat → Int} (h : RA w b off F) : (loadCellsFrom ⟨b, off, none⟩ 0 256 #[]).run Tryz.prog w = .ok (ra F) w := by
  have := run_loadCells_list (P := Tryz.prog) w ⟨b, off, none⟩ ((List.range 256).map fun k => Value.int .i64 (F k)) (fun j v hv => by
    have hj : j < 256 := by
      have := (List.getElem?_eq_some_iff.1 hv).1
      simpa using this
    rw [Addr.add_lit, (h j hj).1]
    simpa [hj] using hv)
  simpa [loadCells, ra] using this
/-- 256 cells, written one behind the other, over a whole block -/
theorem st_ref {w : World} {b : Nat} {old : Array Value} {t : TypeId} (F : Nat → Int) (h : w.heap[b]? = some (.cells old t (0, 0))) (ho : old.size = 256) : (storeCells ⟨b, 0, none⟩ (ra F).toList).run Tryz.prog w = .ok () (w.setRow b (ra F)) := by
  have := run_storeCells_from (P := Tryz.prog) b t (ra F).toList 0 old w h (by simp [ra_size, ho]) (fun v hv => (Array.all_eq_true_iff_forall_mem.1 (ra_one F)) v (by simpa using hv))
  simpa using this

theorem results_row2 {fn : Func} {p u : Tmp} {ty : TypeId} (h : fn.results = #[.cell p ty, .tmp u]) (tmps : Array Value) (w : World) (g : Nat) (cs : Array Value) (v : Value)
    (hp : tmps.getD p undef = .pointer (some ⟨g, 0, none⟩)) (hv : tmps.getD u undef = v) (hl : (loadVar ty ⟨g, 0, none⟩).run Tryz.prog w = .ok (.agg cs) w) :
    (results fn tmps).run Tryz.prog w = .ok (.tuple #[.agg cs, v]) w := by
  subst hv
  have hp' : tmps[p]?.getD undef = .pointer (some ⟨g, 0, none⟩) := by simpa using hp
  simp [results, h, hp', asAddr, hl]

def gk (l : List Int) (k : Nat) : Nat → Int := fun j => if j < k then nth l j else 0
theorem gk_zero (l : List Int) : gk l 0 = nf := by funext j; simp [gk, nf]
theorem gk_all (l : List Int) : gk l l.length = nth l := by
  funext j
  by_cases h : j < l.length
  · simp [gk, h]
  · simp [gk, h, nth_out l j (by omega)]
theorem ra_set (F G : Nat → Int) (k : Nat) (v : Int) (hk : k < 256) (h : ∀ j, G j = if j = k then v else F j) : (ra F).setIfInBounds k (.int .i64 v) = ra G := by
  apply Array.ext_getElem?
  intro i
  by_cases hi : i < 256
  · rw [ra_at G i hi, h i]
    by_cases e : i = k
    · subst e
      rw [if_pos rfl, Array.getElem?_setIfInBounds_self_of_lt (by rw [ra_size]; exact hi)]
    · rw [if_neg e, Array.getElem?_setIfInBounds_ne (Ne.symm e), ra_at F i hi]
  · rw [Array.getElem?_eq_none (by rw [Array.size_setIfInBounds, ra_size]; omega), Array.getElem?_eq_none (by rw [ra_size]; omega)]

end Ck
end Go.Proofs.YtakbbhngcdccpaaGreat
