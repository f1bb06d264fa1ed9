/- Layer 19's laws: an access, and steps, among their arguments, opened. -/
import Derived.Test.YtekdcfdjohlfcaaZkRs1
import Derived.Test.YtekdcfdjohlfcaaBu
namespace Go.Proofs.Ytekdcfdjohlfcaa
open Go.ChangeShapes Go.WideShapes Go.ChangeAt Go.RowKit
namespace Rep
open Ck Ce

theorem cellB {w w' : World} {a : Addr} {v : Value} (h : w.cell? a = some v) (b : Below w.heap.size w w') : w'.cell? a = some v := (b.cell (World.block_lt_of_cell? w _ h)).trans h
theorem fields_acs : ∃ fs : Array Field, Try.prog.underlying 59 = some (.struct fs) ∧ fs.size = 4 ∧ (∃ f, fs[0]? = some f ∧ f.offset = 0 ∧ f.type = 3) ∧ (∃ f, fs[1]? = some f ∧ f.offset = 1 ∧ f.type = 3) ∧ (∃ f, fs[2]? = some f ∧ f.offset = 2 ∧ f.type = 3) ∧ (∃ f, fs[3]? = some f ∧ f.offset = 3 ∧ f.type = 4) :=
  ⟨_, Try.underlying59, rfl, ⟨_, rfl, rfl, rfl⟩, ⟨_, rfl, rfl, rfl⟩, ⟨_, rfl, rfl, rfl⟩, ⟨_, rfl, rfl, rfl⟩⟩
theorem cells_acs : Try.prog.cellsOf 59 = 4 := by kernel_rfl
theorem cells_boo : Try.prog.cellsOf 4 = 1 := by kernel_rfl
theorem cells_ti : Try.prog.cellsOf 31 = 1 := by kernel_rfl
theorem cells_ep : Try.prog.cellsOf 61 = 1 := by kernel_rfl
theorem list4 : ∀ (cs : List Value) {y0 y1 y2 y3 : Value}, cs.length = 4 → cs[0]? = some y0 → cs[1]? = some y1 → cs[2]? = some y2 → cs[3]? = some y3 → cs = [y0, y1, y2, y3]
  | [_, _, _, _], _, _, _, _, _, h0, h1, h2, h3 => by
    simp at h0 h1 h2 h3
    rw [h0, h1, h2, h3]
theorem acs_el {H : Type} {enc : TypeId × Value → H} {w : World} (n : Nat) (cs : List Value) (x : DataW H × List MemPlace) (h : DataW.trod enc Try.prog w 0 (fun _ => true) true n 59 cs = some x) : ∃ a, cs = (aV a).toList := by
  obtain ⟨fs, hu, hsz, ⟨f0, g0, o0, t0⟩, ⟨f1, g1, o1, t1⟩, ⟨f2, g2, o2, t2⟩, ⟨f3, g3, o3, t3⟩⟩ := fields_acs
  obtain ⟨xs, k, _, hxx, hcl, hxl, hff⟩ := DataW.trod_struct hu h
  rw [hsz] at hxl
  rw [cells_acs] at hcl
  have a0 := hff 0 f0 g0
  have a1 := hff 1 f1 g1
  have a2 := hff 2 f2 g2
  have a3 := hff 3 f3 g3
  rw [o0, t0, Ba.cells_int, List.getElem?_eq_getElem (by omega)] at a0
  rw [o1, t1, Ba.cells_int, List.getElem?_eq_getElem (by omega)] at a1
  rw [o2, t2, Ba.cells_int, List.getElem?_eq_getElem (by omega)] at a2
  rw [o3, t3, cells_boo, List.getElem?_eq_getElem (by omega)] at a3
  obtain ⟨v0, e0, _⟩ := DataW.trod_int Try.underlying3 a0
  obtain ⟨v1, e1, _⟩ := DataW.trod_int Try.underlying3 a1
  obtain ⟨v2, e2, _⟩ := DataW.trod_int Try.underlying3 a2
  obtain ⟨v3, e3, _⟩ := DataW.trod_bool Try.underlying4 a3
  exact ⟨⟨v0, v1, v2, v3⟩, list4 cs hcl (Ba.one_of e0) (Ba.one_of e1) (Ba.one_of e2) (Ba.one_of e3)⟩
theorem acs_open {H : Type} {enc : TypeId × Value → H} {w : World} {n : Nat} {v : Value} {x : DataW H × List MemPlace} (h : DataW.trod enc Try.prog w 0 (fun _ => true) true n 59 v.cells.toList = some x) : ∃ a : Aq, v = .agg (aV a) := by
  obtain ⟨a, ha⟩ := acs_el n _ x h
  refine ⟨a, ?_⟩
  have hc : v.cells = aV a := Array.toList_inj.1 ha
  cases v with
  | agg cs => rw [← hc]; rfl
  | _ => have := congrArg Array.size hc; simp [Value.cells, aV] at this
/-- a step -/
structure Stp where
  a : Aq
  e : Int
  c : List Int
  tid : Int
  cut : Int
def stV (z : Stp) (oa : Option Addr) (cap : Nat) : List Value := [.int .i64 z.a.p, .int .i64 z.a.g, .int .i64 z.a.c, .bool z.a.wr, .int .u64 z.e, .slice oa z.c.length cap, .int .i64 z.tid, .int .i64 z.cut]
def StE (w : World) (cs : List Value) (z : Stp) : Prop :=
  ∃ oa cap, cs = stV z oa cap ∧ Ck.At w oa z.c ∧ z.c.length ≤ cap ∧ cap ≤ maxLen ∧ 0 ≤ z.e ∧ z.e ≤ 18446744073709551615
theorem StE.below {w w' : World} (hb : Below w.heap.size w w') {cs : List Value} {z : Stp} (h : StE w cs z) : StE w' cs z := by
  obtain ⟨oa, cap, h1, h2, h3⟩ := h
  exact ⟨oa, cap, h1, h2.below hb, h3⟩
theorem fields_st : ∃ fs : Array Field, Try.prog.underlying 63 = some (.struct fs) ∧ fs.size = 5 ∧ (∃ f, fs[0]? = some f ∧ f.offset = 0 ∧ f.type = 59) ∧ (∃ f, fs[1]? = some f ∧ f.offset = 4 ∧ f.type = 61) ∧ (∃ f, fs[2]? = some f ∧ f.offset = 5 ∧ f.type = 31) ∧ (∃ f, fs[3]? = some f ∧ f.offset = 6 ∧ f.type = 3) ∧ (∃ f, fs[4]? = some f ∧ f.offset = 7 ∧ f.type = 3) :=
  ⟨_, Try.underlying63, rfl, ⟨_, rfl, rfl, rfl⟩, ⟨_, rfl, rfl, rfl⟩, ⟨_, rfl, rfl, rfl⟩, ⟨_, rfl, rfl, rfl⟩, ⟨_, rfl, rfl, rfl⟩⟩
theorem cells_st : Try.prog.cellsOf 63 = 8 := by kernel_rfl
theorem list8 : ∀ (cs : List Value) {y0 y1 y2 y3 y4 y5 y6 y7 : Value}, cs.length = 8 → (cs.drop 0).take 4 = [y0, y1, y2, y3] → cs[4]? = some y4 → cs[5]? = some y5 → cs[6]? = some y6 → cs[7]? = some y7 → cs = [y0, y1, y2, y3, y4, y5, y6, y7]
  | [_, _, _, _, _, _, _, _], _, _, _, _, _, _, _, _, _, h0, h4, h5, h6, h7 => by
    simp at h0 h4 h5 h6 h7
    obtain ⟨q0, q1, q2, q3⟩ := h0
    rw [q0, q1, q2, q3, h4, h5, h6, h7]
theorem step_el {H : Type} {enc : TypeId × Value → H} {w : World} (n : Nat) (cs : List Value) (x : DataW H × List MemPlace) (h : DataW.trod enc Try.prog w 0 (fun _ => true) true n 63 cs = some x) : ∃ z, StE w cs z := by
  obtain ⟨fs, hu, hsz, ⟨f0, g0, o0, t0⟩, ⟨f1, g1, o1, t1⟩, ⟨f2, g2, o2, t2⟩, ⟨f3, g3, o3, t3⟩, ⟨f4, g4, o4, t4⟩⟩ := fields_st
  obtain ⟨xs, k, _, hxx, hcl, hxl, hff⟩ := DataW.trod_struct hu h
  rw [hsz] at hxl
  rw [cells_st] at hcl
  have a0 := hff 0 f0 g0
  have a1 := hff 1 f1 g1
  have a2 := hff 2 f2 g2
  have a3 := hff 3 f3 g3
  have a4 := hff 4 f4 g4
  rw [o0, t0, cells_acs, List.getElem?_eq_getElem (by omega)] at a0
  rw [o1, t1, cells_ep, List.getElem?_eq_getElem (by omega)] at a1
  rw [o2, t2, cells_ti, List.getElem?_eq_getElem (by omega)] at a2
  rw [o3, t3, Ba.cells_int, List.getElem?_eq_getElem (by omega)] at a3
  rw [o4, t4, Ba.cells_int, List.getElem?_eq_getElem (by omega)] at a4
  obtain ⟨v0, e0⟩ := acs_el _ _ _ a0
  obtain ⟨v1, e1, _, w1⟩ := DataW.trod_int Try.underlying61 a1
  simp only [Lit.wf, Bool.and_eq_true, decide_eq_true_eq] at w1
  obtain ⟨v3, e3, _⟩ := DataW.trod_int Try.underlying3 a3
  obtain ⟨v4, e4, _⟩ := DataW.trod_int Try.underlying3 a4
  have hs : ∃ oa len cap, (cs.drop 5).take 1 = [.slice oa len cap] := by
    rcases Go.Deep.open_slice Try.underlying31 a2 with ⟨hcs, _⟩ | ⟨a, len, cap, m, n', D, Pl, hcs, _⟩
    · exact ⟨_, _, _, hcs⟩
    · exact ⟨_, _, _, hcs⟩
  obtain ⟨oa, len, cap, e2⟩ := hs
  rw [e2] at a2
  obtain ⟨l, rfl, hA, h1, h2⟩ := Ba.ints_open a2
  have u1 : 0 ≤ v1 := w1.1
  have u2 : v1 ≤ 18446744073709551615 := w1.2
  refine ⟨⟨v0, v1, l, v3, v4⟩, oa, cap, ?_, hA, h1, h2, u1, u2⟩
  exact list8 cs hcl e0 (Ba.one_of e1) (Ba.one_of e2) (Ba.one_of e3) (Ba.one_of e4)
theorem steps_open {H : Type} {enc : TypeId × Value → H} {w : World} {n : Nat} {oa : Option Addr} {len cap : Nat} {x : DataW H × List MemPlace} (h : DataW.trod enc Try.prog w 0 (fun _ => true) true n 53 [.slice oa len cap] = some x) : ∃ l : List Stp, l.length = len ∧ Ba.GAt w oa 8 (StE w) l ∧ len ≤ cap ∧ cap ≤ maxLen :=
  haveI : Inhabited Stp := ⟨⟨⟨0, 0, 0, false⟩, 0, [], 0, 0⟩⟩
  Ba.grecs_open Try.underlying53 (by decide) cells_st step_el h
end Rep
end Go.Proofs.Ytekdcfdjohlfcaa
