/- Layer 18: a step of the laws among their arguments, opened; a step of both cells. -/
import Derived.Test.YtnbheejahenejaaAs
import Derived.Test.YtnbheejahenejaaBu
namespace Go.Proofs.Ytnbheejahenejaa
open Go.ChangeShapes Go.WideShapes Go.ChangeAt Go.RowKit
namespace Ce
open Ck

/-- a step -/
structure Stp where
  wh : Int
  tid : Int
  cut : Int
  e : Int
  c : List Int
/-- what a step's cells are -/
def StE (w : World) (cs : List Value) (z : Stp) : Prop :=
  ∃ oa cap, cs = [.int .i64 z.wh, .int .i64 z.tid, .int .i64 z.cut, .int .u64 z.e, .slice oa z.c.length cap] ∧ Ck.At w oa z.c ∧ z.c.length ≤ cap ∧ cap ≤ maxLen ∧ 0 ≤ z.e ∧ z.e ≤ 18446744073709551615
theorem StE.below {w w' : World} (hb : Below w.heap.size w w') {cs : List Value} {z : Stp} (h : StE w cs z) : StE w' cs z := by
  obtain ⟨oa, cap, h1, h2, h3⟩ := h
  exact ⟨oa, cap, h1, h2.below hb, h3⟩
theorem fields_st : ∃ fs : Array Field, Try.prog.underlying 32 = some (.struct fs) ∧ fs.size = 5 ∧ (∃ f, fs[0]? = some f ∧ f.offset = 0 ∧ f.type = 3) ∧ (∃ f, fs[1]? = some f ∧ f.offset = 1 ∧ f.type = 3) ∧ (∃ f, fs[2]? = some f ∧ f.offset = 2 ∧ f.type = 3) ∧ (∃ f, fs[3]? = some f ∧ f.offset = 3 ∧ f.type = 29) ∧ (∃ f, fs[4]? = some f ∧ f.offset = 4 ∧ f.type = 30) :=
  ⟨_, Try.underlying32, rfl, ⟨_, rfl, rfl, rfl⟩, ⟨_, rfl, rfl, rfl⟩, ⟨_, rfl, rfl, rfl⟩, ⟨_, rfl, rfl, rfl⟩, ⟨_, rfl, rfl, rfl⟩⟩
theorem cells_ti : Try.prog.cellsOf 30 = 1 := by kernel_rfl
theorem cells_ep : Try.prog.cellsOf 29 = 1 := by kernel_rfl
theorem cells_st : Try.prog.cellsOf 32 = 5 := by kernel_rfl
theorem list5 : ∀ (cs : List Value) {y0 y1 y2 y3 y4 : Value}, cs.length = 5 → cs[0]? = some y0 → cs[1]? = some y1 → cs[2]? = some y2 → cs[3]? = some y3 → cs[4]? = some y4 → cs = [y0, y1, y2, y3, y4]
  | [_, _, _, _, _], _, _, _, _, _, _, h0, h1, h2, h3, h4 => by
    simp at h0 h1 h2 h3 h4
    rw [h0, h1, h2, h3, h4]
theorem step_el {H : Type} {enc : TypeId × Value → H} {w : World} (n : Nat) (cs : List Value) (x : DataW H × List MemPlace) (h : DataW.trod enc Try.prog w 0 (fun _ => true) true n 32 cs = some x) : ∃ z, StE w cs z := by
  obtain ⟨fs, hu, hsz, ⟨f0, g0, o0, t0⟩, ⟨f1, g1, o1, t1⟩, ⟨f2, g2, o2, t2⟩, ⟨f3, g3, o3, t3⟩, ⟨f4, g4, o4, t4⟩⟩ := fields_st
  obtain ⟨xs, k, _, hxx, hcl, hxl, hff⟩ := DataW.trod_struct hu h
  rw [hsz] at hxl
  rw [cells_st] at hcl
  have a0 := hff 0 f0 g0
  have a1 := hff 1 f1 g1
  have a2 := hff 2 f2 g2
  have a3 := hff 3 f3 g3
  have a4 := hff 4 f4 g4
  rw [o0, t0, Ba.cells_int, List.getElem?_eq_getElem (by omega)] at a0
  rw [o1, t1, Ba.cells_int, List.getElem?_eq_getElem (by omega)] at a1
  rw [o2, t2, Ba.cells_int, List.getElem?_eq_getElem (by omega)] at a2
  rw [o3, t3, cells_ep, List.getElem?_eq_getElem (by omega)] at a3
  rw [o4, t4, cells_ti, List.getElem?_eq_getElem (by omega)] at a4
  obtain ⟨v0, e0, _⟩ := DataW.trod_int Try.underlying3 a0
  obtain ⟨v1, e1, _⟩ := DataW.trod_int Try.underlying3 a1
  obtain ⟨v2, e2, _⟩ := DataW.trod_int Try.underlying3 a2
  obtain ⟨v3, e3, _, w3⟩ := DataW.trod_int Try.underlying29 a3
  simp only [Lit.wf, Bool.and_eq_true, decide_eq_true_eq] at w3
  have hs : ∃ oa len cap, (cs.drop 4).take 1 = [.slice oa len cap] := by
    rcases Go.Deep.open_slice Try.underlying30 a4 with ⟨hcs, _⟩ | ⟨a, len, cap, m, n', D, Pl, hcs, _⟩
    · exact ⟨_, _, _, hcs⟩
    · exact ⟨_, _, _, hcs⟩
  obtain ⟨oa, len, cap, e4⟩ := hs
  rw [e4] at a4
  obtain ⟨l, rfl, hA, h1, h2⟩ := Ba.ints_open a4
  have u1 : 0 ≤ v3 := w3.1
  have u2 : v3 ≤ 18446744073709551615 := w3.2
  refine ⟨⟨v0, v1, v2, v3, l⟩, oa, cap, ?_, hA, h1, h2, u1, u2⟩
  exact list5 cs hcl (Ba.one_of e0) (Ba.one_of e1) (Ba.one_of e2) (Ba.one_of e3) (Ba.one_of e4)
theorem steps_open {H : Type} {enc : TypeId × Value → H} {w : World} {n : Nat} {oa : Option Addr} {len cap : Nat} {x : DataW H × List MemPlace} (h : DataW.trod enc Try.prog w 0 (fun _ => true) true n 22 [.slice oa len cap] = some x) : ∃ l : List Stp, l.length = len ∧ Ba.GAt w oa 5 (StE w) l ∧ len ≤ cap ∧ cap ≤ maxLen :=
  haveI : Inhabited Stp := ⟨⟨0, 0, 0, 0, []⟩⟩
  Ba.grecs_open Try.underlying22 (by decide) cells_st step_el h
theorem does_any {Y0 : Nat → Prop} {X R : Nat} {w : World} {st : Cst} {a : Ac} {F : Nat → Int} {tl : Bool} (j : J Y0 X R w st a F tl) (z : Stp) (oa : Option Addr) (cap : Nat) (hA : Ck.At w oa z.c) (hlc : z.c.length ≤ cap) (hcm : cap ≤ maxLen) (a0 : 0 ≤ z.e) (a1 : z.e ≤ 18446744073709551615) :
    Calls Try.prog 11 #[.pointer (some ⟨X, 0, none⟩), .pointer (some ⟨R, 0, none⟩), .agg #[.int .i64 z.wh, .int .i64 z.tid, .int .i64 z.cut, .int .u64 z.e, .slice oa z.c.length cap]] w (DoR Y0 X R w) := by
  by_cases h : z.c.length ≤ 256 ∧ Valid z.c
  · exact does_ok j z.wh z.tid z.cut z.e a0 a1 oa z.c cap hA hlc hcm h.1 h.2
  · exact does_err j z.wh z.tid z.cut z.e oa z.c cap hA hlc hcm (by
      by_cases q : 256 < z.c.length
      · exact .inl q
      · exact .inr fun v => h ⟨by omega, v⟩)
end Ce
end Go.Proofs.Ytnbheejahenejaa
