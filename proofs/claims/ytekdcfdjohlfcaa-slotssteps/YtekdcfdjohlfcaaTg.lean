/- Layer 15: a step of the laws among their arguments, opened. -/
import Derived.Test.YtekdcfdjohlfcaaTf
import Derived.Test.YtekdcfdjohlfcaaBt
namespace Go.Proofs.Ytekdcfdjohlfcaa
open Go.ChangeShapes Go.WideShapes Go.ChangeAt Go.RowKit
namespace Sl

theorem fields_st : ∃ fs : Array Field, Try.prog.underlying 33 = some (.struct fs) ∧ fs.size = 3 ∧ (∃ f, fs[0]? = some f ∧ f.offset = 0 ∧ f.type = 3) ∧ (∃ f, fs[1]? = some f ∧ f.offset = 1 ∧ f.type = 3) ∧ (∃ f, fs[2]? = some f ∧ f.offset = 2 ∧ f.type = 31) :=
  ⟨_, Try.underlying33, rfl, ⟨_, rfl, rfl, rfl⟩, ⟨_, rfl, rfl, rfl⟩, ⟨_, rfl, rfl, rfl⟩⟩
theorem cells_ti : Try.prog.cellsOf 31 = 1 := by kernel_rfl
theorem step_el {H : Type} {enc : TypeId × Value → H} {w : World} (n : Nat) (cs : List Value) (x : DataW H × List MemPlace) (h : DataW.trod enc Try.prog w 0 (fun _ => true) true n 33 cs = some x) : ∃ z, Ba.ElIs w 2 cs z := by
  obtain ⟨fs, hu, hsz, ⟨f0, g0, o0, t0⟩, ⟨f1, g1, o1, t1⟩, ⟨f2, g2, o2, t2⟩⟩ := fields_st
  obtain ⟨xs, k, _, hxx, hcl, hxl, hff⟩ := DataW.trod_struct hu h
  rw [hsz] at hxl
  have a0 := hff 0 f0 g0
  have a1 := hff 1 f1 g1
  have a2 := hff 2 f2 g2
  rw [o0, t0, Ba.cells_int, List.getElem?_eq_getElem (by omega)] at a0
  rw [o1, t1, Ba.cells_int, List.getElem?_eq_getElem (by omega)] at a1
  rw [o2, t2, cells_ti, List.getElem?_eq_getElem (by omega)] at a2
  obtain ⟨v0, e0, _⟩ := DataW.trod_int Try.underlying3 a0
  obtain ⟨v1, e1, _⟩ := DataW.trod_int Try.underlying3 a1
  have hs : ∃ oa len cap, (cs.drop 2).take 1 = [.slice oa len cap] := by
    rcases Go.Deep.open_slice Try.underlying31 a2 with ⟨hcs, _⟩ | ⟨a, len, cap, m, n', D, Pl, hcs, _⟩
    · exact ⟨_, _, _, hcs⟩
    · exact ⟨_, _, _, hcs⟩
  obtain ⟨oa, len, cap, e2⟩ := hs
  rw [e2] at a2
  obtain ⟨l, rfl, hA, h1, h2⟩ := Ba.ints_open a2
  refine ⟨([v0, v1], l), fun j hj => ?_, oa, cap, Ba.one_of e2, hA, h1, h2⟩
  match j, hj with
  | 0, _ => exact Ba.one_of e0
  | 1, _ => exact Ba.one_of e1
theorem cells_st : Try.prog.cellsOf 33 = 2 + 1 := by kernel_rfl
theorem steps_open {H : Type} {enc : TypeId × Value → H} {w : World} {n : Nat} {oa : Option Addr} {len cap : Nat} {x : DataW H × List MemPlace} (h : DataW.trod enc Try.prog w 0 (fun _ => true) true n 22 [.slice oa len cap] = some x) : ∃ l : List (List Int × List Int), l.length = len ∧ Ba.JAt w oa 2 l ∧ len ≤ cap ∧ cap ≤ maxLen :=
  Ba.jrecs_open Try.underlying22 (by decide) cells_st step_el h
end Sl
end Go.Proofs.Ytekdcfdjohlfcaa
