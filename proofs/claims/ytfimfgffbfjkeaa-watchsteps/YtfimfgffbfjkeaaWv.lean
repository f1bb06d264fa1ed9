/- Layer 16: a step of the laws among their arguments, opened, with keys well formed. -/
import Derived.Test.YtfimfgffbfjkeaaWu
import Derived.Test.YtfimfgffbfjkeaaBu
namespace Go.Proofs.Ytfimfgffbfjkeaa
open Go.ChangeShapes Go.WideShapes Go.ChangeAt Go.RowKit
namespace Wq
open Ck
open Wa (Wst)

/-- a step -/
structure Stp where
  wh : Int
  g : Int
  k : Int
  c : List Int
/-- what a step's cells are -/
def StE (w : World) (cs : List Value) (z : Stp) : Prop :=
  ∃ oa cap, cs = [.int .i64 z.wh, .int .i64 z.g, .int .i64 z.k, .slice oa z.c.length cap] ∧ Ck.At w oa z.c ∧ z.c.length ≤ cap ∧ cap ≤ maxLen ∧ wfk z.g ∧ wfk z.k
theorem StE.below {w w' : World} (hb : Below w.heap.size w w') {cs : List Value} {z : Stp} (h : StE w cs z) : StE w' cs z := by
  obtain ⟨oa, cap, h1, h2, h3⟩ := h
  exact ⟨oa, cap, h1, h2.below hb, h3⟩
theorem fields_st : ∃ fs : Array Field, Try.prog.underlying 33 = some (.struct fs) ∧ fs.size = 4 ∧ (∃ f, fs[0]? = some f ∧ f.offset = 0 ∧ f.type = 3) ∧ (∃ f, fs[1]? = some f ∧ f.offset = 1 ∧ f.type = 3) ∧ (∃ f, fs[2]? = some f ∧ f.offset = 2 ∧ f.type = 3) ∧ (∃ f, fs[3]? = some f ∧ f.offset = 3 ∧ f.type = 31) :=
  ⟨_, Try.underlying33, rfl, ⟨_, rfl, rfl, rfl⟩, ⟨_, rfl, rfl, rfl⟩, ⟨_, rfl, rfl, rfl⟩, ⟨_, rfl, rfl, rfl⟩⟩
theorem cells_tis : Try.prog.cellsOf 31 = 1 := by kernel_rfl
theorem cells_stp : Try.prog.cellsOf 33 = 4 := by kernel_rfl
theorem list4 : ∀ (cs : List Value) {y0 y1 y2 y3 : Value}, cs.length = 4 → cs[0]? = some y0 → cs[1]? = some y1 → cs[2]? = some y2 → cs[3]? = some y3 → cs = [y0, y1, y2, y3]
  | [_, _, _, _], _, _, _, _, _, h0, h1, h2, h3 => by
    simp at h0 h1 h2 h3
    rw [h0, h1, h2, h3]
theorem step_el {H : Type} {enc : TypeId × Value → H} {w : World} (n : Nat) (cs : List Value) (x : DataW H × List MemPlace) (h : DataW.trod enc Try.prog w 0 (fun _ => true) true n 33 cs = some x) : ∃ z, StE w cs z := by
  obtain ⟨fs, hu, hsz, ⟨f0, g0, o0, t0⟩, ⟨f1, g1, o1, t1⟩, ⟨f2, g2, o2, t2⟩, ⟨f3, g3, o3, t3⟩⟩ := fields_st
  obtain ⟨xs, k, _, hxx, hcl, hxl, hff⟩ := DataW.trod_struct hu h
  rw [hsz] at hxl
  rw [cells_stp] at hcl
  have a0 := hff 0 f0 g0
  have a1 := hff 1 f1 g1
  have a2 := hff 2 f2 g2
  have a3 := hff 3 f3 g3
  rw [o0, t0, Ba.cells_int, List.getElem?_eq_getElem (by omega)] at a0
  rw [o1, t1, Ba.cells_int, List.getElem?_eq_getElem (by omega)] at a1
  rw [o2, t2, Ba.cells_int, List.getElem?_eq_getElem (by omega)] at a2
  rw [o3, t3, cells_tis, List.getElem?_eq_getElem (by omega)] at a3
  obtain ⟨v0, e0, _⟩ := DataW.trod_int Try.underlying3 a0
  obtain ⟨v1, e1, _, w1⟩ := DataW.trod_int Try.underlying3 a1
  obtain ⟨v2, e2, _, w2⟩ := DataW.trod_int Try.underlying3 a2
  have hs : ∃ oa len cap, (cs.drop 3).take 1 = [.slice oa len cap] := by
    rcases Go.Deep.open_slice Try.underlying31 a3 with ⟨hcs, _⟩ | ⟨a, len, cap, m, n', D, Pl, hcs, _⟩
    · exact ⟨_, _, _, hcs⟩
    · exact ⟨_, _, _, hcs⟩
  obtain ⟨oa, len, cap, e3⟩ := hs
  rw [e3] at a3
  obtain ⟨l, rfl, hA, h1, h2⟩ := Ba.ints_open a3
  refine ⟨⟨v0, v1, v2, l⟩, oa, cap, ?_, hA, h1, h2, w1, w2⟩
  exact list4 cs hcl (Ba.one_of e0) (Ba.one_of e1) (Ba.one_of e2) (Ba.one_of e3)
theorem steps_open {H : Type} {enc : TypeId × Value → H} {w : World} {n : Nat} {oa : Option Addr} {len cap : Nat} {x : DataW H × List MemPlace} (h : DataW.trod enc Try.prog w 0 (fun _ => true) true n 22 [.slice oa len cap] = some x) : ∃ l : List Stp, l.length = len ∧ Ba.GAt w oa 4 (StE w) l ∧ len ≤ cap ∧ cap ≤ maxLen :=
  haveI : Inhabited Stp := ⟨⟨0, 0, 0, []⟩⟩
  Ba.grecs_open Try.underlying22 (by decide) cells_stp step_el h
/-- A step of the law's list, on both sides. -/
theorem does_stp {Y0 : Nat → Prop} {B G : Nat} {w : World} {st : Wst} {h : Nat → Option (List Int)} {qs : Qst} (j : JW Y0 B G w st h qs) (r : Rw st h qs) {cs : List Value} {z : Stp} (s : StE w cs z) :
    Calls Try.prog 9 #[.pointer (some ⟨B, 0, none⟩), .pointer (some ⟨G, 0, none⟩), .agg cs.toArray] w (DoW Y0 B G qs z.wh w) := by
  obtain ⟨oa, cap, rfl, hA, h1, h2, hg, hk⟩ := s
  exact does_any j r z.wh z.g z.k hg hk oa z.c.length cap z.c rfl hA h1 h2
end Wq
end Go.Proofs.Ytfimfgffbfjkeaa
