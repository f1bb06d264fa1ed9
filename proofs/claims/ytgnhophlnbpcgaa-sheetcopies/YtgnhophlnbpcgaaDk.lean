/- An operation among a law's arguments, opened. -/
import Derived.Test.YtgnhophlnbpcgaaDj
import Derived.Deep.Slices
import Derived.ShutString
import Derived.ChangeOld
namespace Go.Proofs.Ytgnhophlnbpcgaa
open Go.ChangeShapes Go.WideShapes Go.ChangeAt Go.RowKit
namespace De
open Ba Re

theorem cells_case : Try.prog.cellsOf 58 = 3 := by kernel_rfl
theorem cells_op : Try.prog.cellsOf 24 = 5 := by kernel_rfl
theorem cells_int : Try.prog.cellsOf 3 = 1 := by kernel_rfl
theorem cells_bool : Try.prog.cellsOf 4 = 1 := by kernel_rfl
theorem cells_cases : Try.prog.cellsOf 22 = 1 := by kernel_rfl

theorem fields3 : ∃ fs : Array Field, Try.prog.underlying 58 = some (.struct fs) ∧ fs.size = 3 ∧ (∃ f, fs[0]? = some f ∧ f.offset = 0 ∧ f.type = 4) ∧ (∃ f, fs[1]? = some f ∧ f.offset = 1 ∧ f.type = 3) ∧ (∃ f, fs[2]? = some f ∧ f.offset = 2 ∧ f.type = 3) :=
  ⟨_, Try.underlying58, rfl, ⟨_, rfl, rfl, rfl⟩, ⟨_, rfl, rfl, rfl⟩, ⟨_, rfl, rfl, rfl⟩⟩
theorem fields5 : ∃ fs : Array Field, Try.prog.underlying 24 = some (.struct fs) ∧ fs.size = 5 ∧ (∃ f, fs[0]? = some f ∧ f.offset = 0 ∧ f.type = 3) ∧ (∃ f, fs[1]? = some f ∧ f.offset = 1 ∧ f.type = 3) ∧ (∃ f, fs[2]? = some f ∧ f.offset = 2 ∧ f.type = 3) ∧ (∃ f, fs[3]? = some f ∧ f.offset = 3 ∧ f.type = 22) ∧ (∃ f, fs[4]? = some f ∧ f.offset = 4 ∧ f.type = 4) :=
  ⟨_, Try.underlying24, rfl, ⟨_, rfl, rfl, rfl⟩, ⟨_, rfl, rfl, rfl⟩, ⟨_, rfl, rfl, rfl⟩, ⟨_, rfl, rfl, rfl⟩, ⟨_, rfl, rfl, rfl⟩⟩
theorem one_of {cs : List Value} {j : Nat} {v : Value} (h : (cs.drop j).take 1 = [v]) : cs[j]? = some v := by
  have : ((cs.drop j).take 1)[0]? = some v := by rw [h]; rfl
  simpa using this

section
variable {H : Type} {enc : TypeId × Value → H} {w : World}
theorem case_open {n : Nat} {cs : List Value} {x : DataW H × List MemPlace} (h : DataW.trod enc Try.prog w 0 (fun _ => true) true n 58 cs = some x) : ∃ c : Cs, cs[0]? = some (.bool c.send) ∧ cs[1]? = some (.int .i64 c.ch) ∧ cs[2]? = some (.int .i64 c.val) := by
  obtain ⟨fs, hu, hsz, field3_0, field3_1, field3_2⟩ := fields3
  obtain ⟨xs, k, _, _, _, hxl, hff⟩ := DataW.trod_struct hu h
  rw [hsz] at hxl
  obtain ⟨f0, g0, o0, t0⟩ := field3_0
  have h0 := hff 0 f0 g0
  rw [o0, t0, cells_bool] at h0
  obtain ⟨f1, g1, o1, t1⟩ := field3_1
  have h1 := hff 1 f1 g1
  rw [o1, t1, cells_int] at h1
  obtain ⟨f2, g2, o2, t2⟩ := field3_2
  have h2 := hff 2 f2 g2
  rw [o2, t2, cells_int] at h2
  rw [List.getElem?_eq_getElem (by omega)] at h0 h1 h2
  obtain ⟨b, hb, _⟩ := DataW.trod_bool Try.underlying4 h0
  obtain ⟨c, hc, _⟩ := DataW.trod_int Try.underlying3 h1
  obtain ⟨v, hv, _⟩ := DataW.trod_int Try.underlying3 h2
  exact ⟨⟨b, c, v⟩, one_of hb, one_of hc, one_of hv⟩

theorem cases_open {n : Nat} {v : Value} {x : DataW H × List MemPlace} (h : DataW.trod enc Try.prog w 0 (fun _ => true) true n 22 [v] = some x) : ∃ (l : List Cs) (oa : Option Addr) (c : Nat), v = .slice oa l.length c ∧ CAt w oa l ∧ l.length ≤ maxLen := by
  rcases Go.Deep.open_slice Try.underlying22 h with ⟨hcs, _⟩ | ⟨a, len, cap, m, n', D, Pl, hcs, _, hl, hm, hmm, _, hel⟩
  · simp at hcs
    subst hcs
    exact ⟨[], none, 0, rfl, CAt.nil _ _, Nat.zero_le _⟩
  · simp at hcs
    subst hcs
    have hmc : m = cap := by simpa using hmm
    subst hmc
    have key : ∀ i, i < len → ∃ c : Cs, w.cell? ((a.add (i * 3)).add 0) = some (.bool c.send) ∧ w.cell? ((a.add (i * 3)).add 1) = some (.int .i64 c.ch) ∧ w.cell? ((a.add (i * 3)).add 2) = some (.int .i64 c.val) := by
      intro i hi
      obtain ⟨cs', h1, h2⟩ := hel i (by omega)
      rw [cells_case] at h1
      obtain ⟨_, _, hcell⟩ := World.cells?_some h1
      obtain ⟨c, q0, q1, q2⟩ := case_open h2
      exact ⟨c, (hcell 0 (by decide)).trans q0, (hcell 1 (by decide)).trans q1, (hcell 2 (by decide)).trans q2⟩
    have fam : ∃ f : Nat → Cs, ∀ i, i < len → w.cell? ((a.add (i * 3)).add 0) = some (.bool (f i).send) ∧ w.cell? ((a.add (i * 3)).add 1) = some (.int .i64 (f i).ch) ∧ w.cell? ((a.add (i * 3)).add 2) = some (.int .i64 (f i).val) := by
      refine ⟨fun i => if hi : i < len then Classical.choose (key i hi) else ⟨false, 0, 0⟩, fun i hi => ?_⟩
      simp only [dif_pos hi]
      exact Classical.choose_spec (key i hi)
    obtain ⟨f, hf⟩ := fam
    have hlen : ((List.range len).map f).length = len := by simp
    refine ⟨(List.range len).map f, some a, m, by rw [hlen], ?_, by rw [hlen]; omega⟩
    intro k c hk
    have hk2 : k < len := by
      have := (List.getElem?_eq_some_iff.1 hk).1
      simpa using this
    have hc : c = f k := by
      simp [hk2] at hk
      exact hk.symm
    subst hc
    have hspot : a.spot = none := by
      have := World.cell?_spot (hf 0 (by omega)).1
      simpa [Addr.add] using this
    obtain ⟨b, off, spot⟩ := a
    simp at hspot
    subst hspot
    obtain ⟨q0, q1, q2⟩ := hf k hk2
    rw [Addr.add_lit, Addr.add_lit] at q0 q1 q2
    exact ⟨b, off, rfl, q0, q1, q2⟩

set_option maxRecDepth 100000 in
theorem op_open {n : Nat} {v : Value} {x : DataW H × List MemPlace} (h : DataW.trod enc Try.prog w 0 (fun _ => true) true n 24 v.cells.toList = some x) : ∃ (o : OpD) (oa : Option Addr) (c : Nat), v = .agg #[.int .i64 o.kind, .int .i64 o.a, .int .i64 o.b, .slice oa o.cases.length c, .bool o.def_] ∧ CAt w oa o.cases ∧ o.cases.length ≤ maxLen := by
  obtain ⟨fs, hu, hsz, field5_0, field5_1, field5_2, field5_3, field5_4⟩ := fields5
  obtain ⟨xs, k, _, _, hcl, hxl, hff⟩ := DataW.trod_struct hu h
  rw [hsz] at hxl
  rw [cells_op] at hcl
  obtain ⟨f0, g0, o0, t0⟩ := field5_0
  have h0 := hff 0 f0 g0
  rw [o0, t0, cells_int] at h0
  obtain ⟨f1, g1, o1, t1⟩ := field5_1
  have h1 := hff 1 f1 g1
  rw [o1, t1, cells_int] at h1
  obtain ⟨f2, g2, o2, t2⟩ := field5_2
  have h2 := hff 2 f2 g2
  rw [o2, t2, cells_int] at h2
  obtain ⟨f3, g3, o3, t3⟩ := field5_3
  have h3 := hff 3 f3 g3
  rw [o3, t3, cells_cases] at h3
  obtain ⟨f4, g4, o4, t4⟩ := field5_4
  have h4 := hff 4 f4 g4
  rw [o4, t4, cells_bool] at h4
  rw [List.getElem?_eq_getElem (by omega)] at h0 h1 h2 h3 h4
  obtain ⟨i0, e0, _⟩ := DataW.trod_int Try.underlying3 h0
  obtain ⟨i1, e1, _⟩ := DataW.trod_int Try.underlying3 h1
  obtain ⟨i2, e2, _⟩ := DataW.trod_int Try.underlying3 h2
  obtain ⟨i4, e4, _⟩ := DataW.trod_bool Try.underlying4 h4
  have hz : ∃ z, (v.cells.toList.drop 3).take 1 = [z] := by
    have hl : ((v.cells.toList.drop 3).take 1).length = 1 := by simp at hcl ⊢; omega
    match hq : (v.cells.toList.drop 3).take 1, hl with
    | [z], _ => exact ⟨z, rfl⟩
  obtain ⟨z, e3⟩ := hz
  rw [e3] at h3
  obtain ⟨l, oa, c, rfl, hA, hm⟩ := cases_open h3
  refine ⟨⟨i0, i1, i2, l, i4⟩, oa, c, ?_, hA, hm⟩
  have hc : v.cells = #[.int .i64 i0, .int .i64 i1, .int .i64 i2, .slice oa l.length c, .bool i4] := by
    apply Array.toList_inj.1
    have q0 := one_of e0
    have q1 := one_of e1
    have q2 := one_of e2
    have q3 := one_of e3
    have q4 := one_of e4
    generalize v.cells.toList = L at *
    match L, hcl with
    | [y0, y1, y2, y3, y4], _ =>
      simp at q0 q1 q2 q3 q4
      simp [q0, q1, q2, q3, q4]
  cases v with
  | agg cs => rw [← hc]; rfl
  | _ => have := congrArg Array.size hc; simp [Value.cells] at this
end
end De
end Go.Proofs.Ytgnhophlnbpcgaa
