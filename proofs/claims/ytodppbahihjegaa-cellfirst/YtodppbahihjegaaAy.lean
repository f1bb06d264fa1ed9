/- Layer 18's CellFirst: the accesses among its arguments, opened. -/
import Derived.Test.YtodppbahihjegaaAw
import Derived.Test.YtodppbahihjegaaBu
import Derived.Test.YtodppbahihjegaaAl
namespace Go.Proofs.Ytodppbahihjegaa
open Go.ChangeShapes Go.WideShapes Go.ChangeAt Go.RowKit
namespace Ce
open Ck

/-- an access that is asked for -/
structure Asq where
  g : Int
  to : Int
  wr : Bool
def AsE (cs : List Value) (z : Asq) : Prop := cs = [.int .i64 z.g, .int .i64 z.to, .bool z.wr]
theorem fields_ax : ∃ fs : Array Field, Try.prog.underlying 34 = some (.struct fs) ∧ fs.size = 3 ∧ (∃ f, fs[0]? = some f ∧ f.offset = 0 ∧ f.type = 3) ∧ (∃ f, fs[1]? = some f ∧ f.offset = 1 ∧ f.type = 3) ∧ (∃ f, fs[2]? = some f ∧ f.offset = 2 ∧ f.type = 4) :=
  ⟨_, Try.underlying34, rfl, ⟨_, rfl, rfl, rfl⟩, ⟨_, rfl, rfl, rfl⟩, ⟨_, rfl, rfl, rfl⟩⟩
theorem cells_ax : Try.prog.cellsOf 34 = 3 := by kernel_rfl
theorem list3 : ∀ (cs : List Value) {y0 y1 y2 : Value}, cs.length = 3 → cs[0]? = some y0 → cs[1]? = some y1 → cs[2]? = some y2 → cs = [y0, y1, y2]
  | [_, _, _], _, _, _, _, h0, h1, h2 => by
    simp at h0 h1 h2
    rw [h0, h1, h2]
theorem ask_el {H : Type} {enc : TypeId × Value → H} {w : World} (n : Nat) (cs : List Value) (x : DataW H × List MemPlace) (h : DataW.trod enc Try.prog w 0 (fun _ => true) true n 34 cs = some x) : ∃ z, AsE cs z := by
  obtain ⟨fs, hu, hsz, ⟨f0, g0, o0, t0⟩, ⟨f1, g1, o1, t1⟩, ⟨f2, g2, o2, t2⟩⟩ := fields_ax
  obtain ⟨xs, k, _, hxx, hcl, hxl, hff⟩ := DataW.trod_struct hu h
  rw [hsz] at hxl
  rw [cells_ax] at hcl
  have a0 := hff 0 f0 g0
  have a1 := hff 1 f1 g1
  have a2 := hff 2 f2 g2
  rw [o0, t0, Ba.cells_int, List.getElem?_eq_getElem (by omega)] at a0
  rw [o1, t1, Ba.cells_int, List.getElem?_eq_getElem (by omega)] at a1
  rw [o2, t2, cells_bo, List.getElem?_eq_getElem (by omega)] at a2
  obtain ⟨v0, e0, _⟩ := DataW.trod_int Try.underlying3 a0
  obtain ⟨v1, e1, _⟩ := DataW.trod_int Try.underlying3 a1
  obtain ⟨v2, e2, _⟩ := DataW.trod_bool Try.underlying4 a2
  exact ⟨⟨v0, v1, v2⟩, list3 cs hcl (Ba.one_of e0) (Ba.one_of e1) (Ba.one_of e2)⟩
theorem asks_open {H : Type} {enc : TypeId × Value → H} {w : World} {n : Nat} {oa : Option Addr} {len cap : Nat} {x : DataW H × List MemPlace} (h : DataW.trod enc Try.prog w 0 (fun _ => true) true n 22 [.slice oa len cap] = some x) : ∃ l : List Asq, l.length = len ∧ Ba.GAt w oa 3 AsE l ∧ len ≤ cap ∧ cap ≤ maxLen :=
  haveI : Inhabited Asq := ⟨⟨0, 0, false⟩⟩
  Ba.grecs_open Try.underlying22 (by decide) cells_ax ask_el h
/-- the first k have their own number -/
def Ci (k : Nat) : Nat → Nat → Int := fun g t => if g = t ∧ g < k then 1 else 0
theorem Ci_zero (g : Nat) : Ci 0 g = nf := by funext t; simp [Ci, nf]
theorem Ci_four : Ci 4 = C0 := rfl
theorem z4 : Try.zeroCells29 = (List.replicate 1024 (Value.int .i64 0)).toArray := by kernel_rfl
theorem z4_at (k : Nat) (h : k < 1024) : Try.zeroCells29[k]? = some (.int .i64 0) := by
  rw [z4, List.getElem?_toArray, List.getElem?_replicate, if_pos h]
theorem ra_set4 {w : World} {K k : Nat} {C C' : Nat → Nat → Int} (h : ∀ g, g < 4 → Ck.RA w K (g * 256) (C g)) (hk : k < 4) {t : Nat} (ht : t < 256) (v : Int) (hC : ∀ g, g < 4 → ∀ j, j < 256 → C' g j = if g = k ∧ j = t then v else C g j) : ∀ g, g < 4 → Ck.RA (w.setCell ⟨K, k * 256 + t, none⟩ (.int .i64 v)) K (g * 256) (C' g) := by
  intro g hg j hj
  obtain ⟨h1, h2⟩ := h g hg j hj
  rw [hC g hg j hj]
  by_cases e : g = k ∧ j = t
  · obtain ⟨rfl, rfl⟩ := e
    rw [if_pos ⟨rfl, rfl⟩]
    exact ⟨World.cell?_setCell_same _ _ _ h1, by rw [World.frozen?_setCell]; exact h2⟩
  · rw [if_neg e]
    have hne : (⟨K, g * 256 + j, none⟩ : Addr) ≠ ⟨K, k * 256 + t, none⟩ := by
      intro q
      have : g * 256 + j = k * 256 + t := congrArg Addr.off q
      exact e ⟨by omega, by omega⟩
    exact ⟨(World.cell?_setCell_other _ _ _ _ (Ne.symm hne)).trans h1, by rw [World.frozen?_setCell]; exact h2⟩
theorem rcB_succ (C : Nat → Nat → Int) (g : Nat) (wr : Bool) (D : List Ax) (j : Nat) (d : Ax) (h : D[j]? = some d) : rcB C g wr (D.take (j + 1)) = (rcB C g wr (D.take j) || ((d.wr || wr) && !(decide ((d.tid : Int) = (g : Int))) && decide (C g d.tid < d.n))) := by
  have hj : j < D.length := (List.getElem?_eq_some_iff.1 h).1
  have e : D.take (j + 1) = D.take j ++ [d] := by
    rw [List.take_succ_eq_append_getElem hj, (List.getElem?_eq_some_iff.1 h).2]
  unfold rcB
  rw [e, List.any_append]
  simp
theorem at_ky2 {w wr : World} {b o : Nat} {v : Value} (h : w.cell? ⟨b, o, none⟩ = some v) (k : KY (Lw w) w wr) : wr.cell? ⟨b, o, none⟩ = some v :=
  (World.cell?_of_block (w := w) (a := ⟨b, o, none⟩) (k.block b (World.block_lt_of_cell? w _ h))).trans h
/-- a cell of the first row -/
theorem FW.done {w wr : World} {X K : Nat} {vD vW : Value} {C : Nat → Nat → Int} {D : List Ax} {st : Cst} (h : FW w X K vD vW C D st wr) {j : Nat} {d : Ax} (hd : D[j]? = some d) :
    ∃ gD cD gW cW, vD = .slice (some ⟨gD, 0, none⟩) D.length cD ∧ vW = .slice (some ⟨gW, 0, none⟩) D.length cW ∧ wr.cell? ⟨gD, j * 4, none⟩ = some (.int .i64 (d.tid : Int)) ∧ wr.cell? ⟨gD, j * 4 + 1, none⟩ = some (.int .i64 d.n) ∧ wr.cell? ⟨gD, j * 4 + 2, none⟩ = some (.bool false) ∧ wr.cell? ⟨gD, j * 4 + 3, none⟩ = some (.bool false) ∧ wr.cell? ⟨gW, j, none⟩ = some (.bool d.wr) := by
  have hj : j < D.length := (List.getElem?_eq_some_iff.1 hd).1
  rcases h.od.2 with ⟨-, q⟩ | ⟨gD, cD, cr, rfl, -⟩
  · omega
  rcases h.ow.2 with ⟨-, q⟩ | ⟨gW, cW, cr2, rfl, -⟩
  · omega
  have hc := fun i (hi : i < 4) => (h.od.cellAt (j * 4 + i) (by omega)).trans (dC_at D j d hd i hi)
  exact ⟨gD, cD, gW, cW, rfl, rfl, hc 0 (by decide), hc 1 (by decide), hc 2 (by decide), hc 3 (by decide), (h.ow.cellAt j (by omega)).trans (wC_at D j d hd)⟩
theorem FW.sl {w wr : World} {X K : Nat} {vD vW : Value} {C : Nat → Nat → Int} {D : List Ax} {st : Cst} (h : FW w X K vD vW C D st wr) : ∃ oD cD oW cW, vD = .slice oD D.length cD ∧ vW = .slice oW D.length cW := by
  rcases h.od.2 with ⟨rfl, q⟩ | ⟨gD, cD, cr, rfl, -⟩
  · rcases h.ow.2 with ⟨rfl, -⟩ | ⟨gW, cW, cr2, rfl, -⟩
    · rw [q]; exact ⟨none, 0, none, 0, rfl, rfl⟩
    · exact ⟨none, 0, _, cW, by rw [q], rfl⟩
  · rcases h.ow.2 with ⟨rfl, q⟩ | ⟨gW, cW, cr2, rfl, -⟩
    · exact ⟨_, cD, none, 0, rfl, by rw [q]⟩
    · exact ⟨_, cD, _, cW, rfl, rfl⟩
end Ce
end Go.Proofs.Ytodppbahihjegaa
