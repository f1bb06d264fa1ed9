/- A script among a law's arguments, opened. -/
import Derived.Test.YtkcbokhkmcmpdaaGreatZjLoom10
import Derived.Test.YtkcbokhkmcmpdaaGreatHq
import Derived.SizedLaws
namespace Go.Proofs.YtkcbokhkmcmpdaaGreat
open Go.ChangeShapes Go.WideShapes Go.ChangeAt Go.RowKit
namespace Sh
open De Ba Re

section
variable {H : Type} {enc : TypeId × Value → H} {w : World}
/-- within the form's own reach -/
def WL (t : TypeId) (d : DataW H) : Prop := ∀ m ∈ d.weights Tryz.prog t, m ≤ reachBytes
theorem mem_all {e : TypeId} : ∀ {l : List (DataW H)} {d : DataW H}, d ∈ l → ∀ n ∈ d.weights Tryz.prog e, n ∈ DataW.weightsAll Tryz.prog e l
  | d' :: r, d, hd, n, hn => by
    simp only [DataW.weightsAll, List.mem_append]
    rcases List.mem_cons.1 hd with rfl | h
    · exact Or.inl hn
    · exact Or.inr (mem_all h n hn)
theorem WL.field {t : TypeId} {fs : Array Field} {xs : List (DataW H × List MemPlace)} {j : Nat} {f : Field} {y : DataW H × List MemPlace} (hu : Tryz.prog.underlying t = some (.struct fs)) (hf : fs[j]? = some f) (hx : xs[j]? = some y) (hz : WL t (DataW.agg (xs.map (·.1)))) : WL f.type y.1 := by
  intro m hm
  apply hz
  simp only [DataW.weights, hu]
  refine DataW.weights_mem_each (j := j) ?_ ?_ m hm
  · rw [List.getElem?_map, Array.getElem?_toList, hf]
    rfl
  · rw [List.getElem?_map, hx]
    rfl
theorem WL.elem {t e : TypeId} {l sp : List (DataW H)} (hu : Tryz.prog.underlying t = some (.slice e)) (hz : WL t (DataW.slice l sp)) : (l.length + sp.length) * Tryz.prog.bytesOf e ≤ reachBytes ∧ ∀ d ∈ l, WL e d := by
  unfold WL at hz
  simp only [DataW.weights, hu] at hz
  exact ⟨hz _ (List.mem_cons_self ..), fun d hd m hm => hz _ (List.mem_cons_of_mem _ (List.mem_append_left _ (mem_all hd m hm)))⟩
theorem WL.elemAt {t e : TypeId} {len : Nat} {D : Nat → DataW H} {sp : List (DataW H)} (hu : Tryz.prog.underlying t = some (.slice e)) (hz : WL t (DataW.slice ((List.range len).map D) sp)) (i : Nat) (hi : i < len) : WL e (D i) :=
  (hz.elem hu).2 _ (List.mem_map.2 ⟨i, List.mem_range.2 hi, rfl⟩)

theorem bytes_case : Tryz.prog.bytesOf 95 = 24 := by kernel_rfl
theorem cells_pr : Tryz.prog.cellsOf 72 = 1 := by kernel_rfl
theorem cells_prs : Tryz.prog.cellsOf 22 = 1 := by kernel_rfl
theorem cells_ints : Tryz.prog.cellsOf 23 = 1 := by kernel_rfl
theorem cells_sc : Tryz.prog.cellsOf 25 = 5 := by kernel_rfl

theorem cases_held {n : Nat} {v : Value} {x : DataW H × List MemPlace} (h : DataW.trod enc Tryz.prog w 0 (fun _ => true) true n 42 [v] = some x) (hz : WL 42 x.1) : ∃ (l : List Cs) (oa : Option Addr) (c : Nat), v = .slice oa l.length c ∧ CAt w oa l ∧ l.length ≤ maxLen ∧ l.length ≤ 140737488355328 := by
  obtain ⟨l, oa, c, rfl, hA, hm⟩ := cases_open h
  refine ⟨l, oa, c, rfl, hA, hm, ?_⟩
  rcases Go.Deep.open_slice Tryz.underlying42 h with ⟨hcs, _⟩ | ⟨a, len, cap, m, n', D, Pl, hcs, _, hl, _, hmm, hx, _⟩
  · simp at hcs
    have := hcs.2.1
    simp [this]
  · simp at hcs
    obtain ⟨_, e, _⟩ := hcs
    rw [hx] at hz
    have := (WL.elem Tryz.underlying42 hz).1
    rw [bytes_case] at this
    simp [reachBytes] at this
    omega

theorem op_held {n : Nat} {cs : List Value} {x : DataW H × List MemPlace} (h : DataW.trod enc Tryz.prog w 0 (fun _ => true) true n 44 cs = some x) (hz : WL 44 x.1) :
    ∃ (o : OpD) (oa : Option Addr) (c : Nat), (cs[0]? = some (.int .i64 o.kind) ∧ cs[1]? = some (.int .i64 o.a) ∧ cs[2]? = some (.int .i64 o.b) ∧ cs[3]? = some (.slice oa o.cases.length c) ∧ cs[4]? = some (.bool o.def_)) ∧ CAt w oa o.cases ∧ o.cases.length ≤ maxLen ∧ o.cases.length ≤ 140737488355328 := by
  obtain ⟨fs, hu, hsz, field5_0, field5_1, field5_2, field5_3, field5_4⟩ := fields5
  obtain ⟨xs, k, _, hxx, hcl, hxl, hff⟩ := DataW.trod_struct hu h
  rw [hxx] at hz
  rw [hsz] at hxl
  rw [cells_op] at hcl
  obtain ⟨f0, g0, o0, t0⟩ := field5_0
  have h0 := hff 0 f0 g0
  rw [o0, t0, De.cells_int] at h0
  obtain ⟨f1, g1, o1, t1⟩ := field5_1
  have h1 := hff 1 f1 g1
  rw [o1, t1, De.cells_int] at h1
  obtain ⟨f2, g2, o2, t2⟩ := field5_2
  have h2 := hff 2 f2 g2
  rw [o2, t2, De.cells_int] at h2
  obtain ⟨f3, g3, o3, t3⟩ := field5_3
  have h3 := hff 3 f3 g3
  rw [o3, t3, cells_cases] at h3
  obtain ⟨f4, g4, o4, t4⟩ := field5_4
  have h4 := hff 4 f4 g4
  rw [o4, t4, cells_bool] at h4
  have x3 : xs[3]? = some xs[3] := List.getElem?_eq_getElem (by omega)
  have z3 := WL.field hu g3 x3 hz
  rw [t3] at z3
  rw [x3] at h3
  rw [List.getElem?_eq_getElem (by omega)] at h0 h1 h2 h4
  obtain ⟨i0, e0, _⟩ := DataW.trod_int Tryz.underlying3 h0
  obtain ⟨i1, e1, _⟩ := DataW.trod_int Tryz.underlying3 h1
  obtain ⟨i2, e2, _⟩ := DataW.trod_int Tryz.underlying3 h2
  obtain ⟨i4, e4, _⟩ := DataW.trod_bool Tryz.underlying4 h4
  have hq : ∃ z, (cs.drop 3).take 1 = [z] := by
    have hl : ((cs.drop 3).take 1).length = 1 := by simp; omega
    match hq : (cs.drop 3).take 1, hl with
    | [z], _ => exact ⟨z, rfl⟩
  obtain ⟨z, e3⟩ := hq
  rw [e3] at h3
  obtain ⟨l, oa, c, rfl, hA, hm, hb⟩ := cases_held h3 z3
  exact ⟨⟨i0, i1, i2, l, i4⟩, oa, c, ⟨De.one_of e0, De.one_of e1, De.one_of e2, De.one_of e3, De.one_of e4⟩, hA, hm, hb⟩

theorem ops_held {n : Nat} {v : Value} {x : DataW H × List MemPlace} (h : DataW.trod enc Tryz.prog w 0 (fun _ => true) true n 72 [v] = some x) (hz : WL 72 x.1) : ∃ (l : List OpD) (oa : Option Addr) (c : Nat), v = .slice oa l.length c ∧ OAt w oa l ∧ l.length ≤ maxLen ∧ ∀ o ∈ l, o.cases.length ≤ 140737488355328 := by
  rcases Go.Deep.open_slice Tryz.underlying72 h with ⟨hcs, _⟩ | ⟨a, len, cap, m, n', D, Pl, hcs, _, hl, hm, hmm, hx, hel⟩
  · simp at hcs
    subst hcs
    exact ⟨[], none, 0, rfl, OAt.nil _ _, Nat.zero_le _, fun o ho => by cases ho⟩
  · simp at hcs
    subst hcs
    have hmc : m = cap := by simpa using hmm
    subst hmc
    rw [hx] at hz
    have key : ∀ i, i < len → ∃ o : OpD, (∃ ca cc, (w.cell? ((a.add (i * 5)).add 0) = some (.int .i64 o.kind) ∧ w.cell? ((a.add (i * 5)).add 1) = some (.int .i64 o.a) ∧ w.cell? ((a.add (i * 5)).add 2) = some (.int .i64 o.b) ∧ w.cell? ((a.add (i * 5)).add 3) = some (.slice ca o.cases.length cc) ∧ w.cell? ((a.add (i * 5)).add 4) = some (.bool o.def_)) ∧ CAt w ca o.cases) ∧ o.cases.length ≤ maxLen ∧ o.cases.length ≤ 140737488355328 := by
      intro i hi
      obtain ⟨cs', h1, h2⟩ := hel i (by omega)
      rw [cells_op] at h1
      obtain ⟨_, _, hcell⟩ := World.cells?_some h1
      obtain ⟨o, ca, cc, ⟨q0, q1, q2, q3, q4⟩, hC, hM, hB⟩ := op_held h2 (WL.elemAt Tryz.underlying72 hz i hi)
      exact ⟨o, ⟨ca, cc, ⟨(hcell 0 (by decide)).trans q0, (hcell 1 (by decide)).trans q1, (hcell 2 (by decide)).trans q2, (hcell 3 (by decide)).trans q3, (hcell 4 (by decide)).trans q4⟩, hC⟩, hM, hB⟩
    have fam : ∃ f : Nat → OpD, ∀ i, i < len → (∃ ca cc, (w.cell? ((a.add (i * 5)).add 0) = some (.int .i64 (f i).kind) ∧ w.cell? ((a.add (i * 5)).add 1) = some (.int .i64 (f i).a) ∧ w.cell? ((a.add (i * 5)).add 2) = some (.int .i64 (f i).b) ∧ w.cell? ((a.add (i * 5)).add 3) = some (.slice ca (f i).cases.length cc) ∧ w.cell? ((a.add (i * 5)).add 4) = some (.bool (f i).def_)) ∧ CAt w ca (f i).cases) ∧ (f i).cases.length ≤ maxLen ∧ (f i).cases.length ≤ 140737488355328 := by
      refine ⟨fun i => if hi : i < len then Classical.choose (key i hi) else ⟨0, 0, 0, [], false⟩, fun i hi => ?_⟩
      simp only [dif_pos hi]
      exact Classical.choose_spec (key i hi)
    obtain ⟨f, hf⟩ := fam
    have hlen : ((List.range len).map f).length = len := by simp
    refine ⟨(List.range len).map f, some a, m, by rw [hlen], ?_, by rw [hlen]; omega, ?_⟩
    · intro k o hk
      have hk2 : k < len := by
        have := (List.getElem?_eq_some_iff.1 hk).1
        simpa using this
      have hc : o = f k := by
        simp [hk2] at hk
        exact hk.symm
      subst hc
      obtain ⟨⟨ca, cc, ⟨q0, q1, q2, q3, q4⟩, hC⟩, hM, _⟩ := hf k hk2
      have hspot : a.spot = none := by
        obtain ⟨⟨_, _, ⟨p0, _⟩, _⟩, _⟩ := hf 0 (by omega)
        have := World.cell?_spot p0
        simpa [Addr.add] using this
      obtain ⟨b, off, spot⟩ := a
      simp at hspot
      subst hspot
      rw [Addr.add_lit, Addr.add_lit] at q0 q1 q2 q3 q4
      exact ⟨b, off, ca, cc, rfl, ⟨q0, q1, q2, q3, q4⟩, hC, hM⟩
    · intro o ho
      obtain ⟨i, hi, rfl⟩ := List.mem_map.1 ho
      exact (hf i (List.mem_range.1 hi)).2.2

theorem progs_held {n : Nat} {v : Value} {x : DataW H × List MemPlace} (h : DataW.trod enc Tryz.prog w 0 (fun _ => true) true n 22 [v] = some x) (hz : WL 22 x.1) : ∃ (l : List (List OpD)) (oa : Option Addr) (c : Nat), v = .slice oa l.length c ∧ PAt w oa l ∧ l.length ≤ maxLen ∧ Held l := by
  rcases Go.Deep.open_slice Tryz.underlying22 h with ⟨hcs, _⟩ | ⟨a, len, cap, m, n', D, Pl, hcs, _, hl, hm, hmm, hx, hel⟩
  · simp at hcs
    subst hcs
    exact ⟨[], none, 0, rfl, PAt.nil _ _, Nat.zero_le _, fun o ho => by cases ho⟩
  · simp at hcs
    subst hcs
    have hmc : m = cap := by simpa using hmm
    subst hmc
    rw [hx] at hz
    have key : ∀ i, i < len → ∃ q : List OpD, (∃ ca cc, w.cell? ((a.add (i * 1)).add 0) = some (.slice ca q.length cc) ∧ OAt w ca q) ∧ q.length ≤ maxLen ∧ ∀ o ∈ q, o.cases.length ≤ 140737488355328 := by
      intro i hi
      obtain ⟨cs', h1, h2⟩ := hel i (by omega)
      rw [cells_pr] at h1
      obtain ⟨_, hlc, hcell⟩ := World.cells?_some h1
      match cs', hlc, h2, hcell with
      | [z], _, h2, hcell =>
        obtain ⟨q, ca, cc, rfl, hO, hM, hB⟩ := ops_held h2 (WL.elemAt Tryz.underlying22 hz i hi)
        exact ⟨q, ⟨ca, cc, (hcell 0 (by decide)).trans rfl, hO⟩, hM, hB⟩
    have fam : ∃ f : Nat → List OpD, ∀ i, i < len → (∃ ca cc, w.cell? ((a.add (i * 1)).add 0) = some (.slice ca (f i).length cc) ∧ OAt w ca (f i)) ∧ (f i).length ≤ maxLen ∧ ∀ o ∈ f i, o.cases.length ≤ 140737488355328 := by
      refine ⟨fun i => if hi : i < len then Classical.choose (key i hi) else [], fun i hi => ?_⟩
      simp only [dif_pos hi]
      exact Classical.choose_spec (key i hi)
    obtain ⟨f, hf⟩ := fam
    have hlen : ((List.range len).map f).length = len := by simp
    refine ⟨(List.range len).map f, some a, m, by rw [hlen], ?_, by rw [hlen]; omega, ?_⟩
    · intro k o hk
      have hk2 : k < len := by
        have := (List.getElem?_eq_some_iff.1 hk).1
        simpa using this
      have hc : o = f k := by
        simp [hk2] at hk
        exact hk.symm
      subst hc
      obtain ⟨⟨ca, cc, q0, hC⟩, hM, _⟩ := hf k hk2
      have hspot : a.spot = none := by
        obtain ⟨⟨_, _, p0, _⟩, _⟩ := hf 0 (by omega)
        have := World.cell?_spot p0
        simpa [Addr.add] using this
      obtain ⟨b, off, spot⟩ := a
      simp at hspot
      subst hspot
      rw [Addr.add_lit, Addr.add_lit, Nat.mul_one, Nat.add_zero] at q0
      exact ⟨b, off, ca, cc, rfl, q0, hC, hM⟩
    · intro q hq
      obtain ⟨i, hi, rfl⟩ := List.mem_map.1 hq
      exact (hf i (List.mem_range.1 hi)).2.2

theorem ints_held {n : Nat} {v : Value} {x : DataW H × List MemPlace} (h : DataW.trod enc Tryz.prog w 0 (fun _ => true) true n 23 [v] = some x) : ∃ (l : List Int) (oa : Option Addr) (c : Nat), v = .slice oa l.length c ∧ At w oa l ∧ l.length ≤ maxLen := by
  have hv : ∃ oa len cap, v = .slice oa len cap := by
    rcases Go.Deep.open_slice Tryz.underlying23 h with ⟨hcs, _⟩ | ⟨a, len, cap, m, n', D, Pl, hcs, _⟩
    · simp at hcs; exact ⟨_, _, _, hcs⟩
    · simp at hcs; exact ⟨_, _, _, hcs⟩
  obtain ⟨oa, len, cap, rfl⟩ := hv
  obtain ⟨l, rfl, hA, h1, h2⟩ := ints_open h
  exact ⟨l, oa, cap, rfl, hA, by omega⟩

theorem fieldsS : ∃ fs : Array Field, Tryz.prog.underlying 25 = some (.struct fs) ∧ fs.size = 5 ∧ (∃ f, fs[0]? = some f ∧ f.offset = 0 ∧ f.type = 3) ∧ (∃ f, fs[1]? = some f ∧ f.offset = 1 ∧ f.type = 3) ∧ (∃ f, fs[2]? = some f ∧ f.offset = 2 ∧ f.type = 22) ∧ (∃ f, fs[3]? = some f ∧ f.offset = 3 ∧ f.type = 23) ∧ (∃ f, fs[4]? = some f ∧ f.offset = 4 ∧ f.type = 23) :=
  ⟨_, Tryz.underlying25, rfl, ⟨_, rfl, rfl, rfl⟩, ⟨_, rfl, rfl, rfl⟩, ⟨_, rfl, rfl, rfl⟩, ⟨_, rfl, rfl, rfl⟩, ⟨_, rfl, rfl, rfl⟩⟩
theorem one_in {cs : List Value} (hcl : cs.length = 5) (j : Nat) (hj : j < 5) : ∃ z, (cs.drop j).take 1 = [z] := by
  have hl : ((cs.drop j).take 1).length = 1 := by simp; omega
  match hq : (cs.drop j).take 1, hl with
  | [z], _ => exact ⟨z, rfl⟩

set_option maxRecDepth 100000 in
theorem script_open {n : Nat} {v : Value} {x : DataW H × List MemPlace} (h : DataW.trod enc Tryz.prog w 0 (fun _ => true) true n 25 v.cells.toList = some x) (hz : WL 25 x.1) :
    ∃ (T M : Int) (ps : List (List OpD)) (pl dr : List Int) (pa la da : Option Addr) (pc lc dc : Nat), v = .agg #[.int .i64 T, .int .i64 M, .slice pa ps.length pc, .slice la pl.length lc, .slice da dr.length dc] ∧ SAt w ⟨T, M, ps, pl, dr⟩ pa la da ∧ Held ps := by
  obtain ⟨fs, hu, hsz, field5_0, field5_1, field5_2, field5_3, field5_4⟩ := fieldsS
  obtain ⟨xs, k, _, hxx, hcl, hxl, hff⟩ := DataW.trod_struct hu h
  rw [hxx] at hz
  rw [hsz] at hxl
  rw [cells_sc] at hcl
  obtain ⟨f0, g0, o0, t0⟩ := field5_0
  have h0 := hff 0 f0 g0
  rw [o0, t0, De.cells_int] at h0
  obtain ⟨f1, g1, o1, t1⟩ := field5_1
  have h1 := hff 1 f1 g1
  rw [o1, t1, De.cells_int] at h1
  obtain ⟨f2, g2, o2, t2⟩ := field5_2
  have h2 := hff 2 f2 g2
  rw [o2, t2, cells_prs] at h2
  obtain ⟨f3, g3, o3, t3⟩ := field5_3
  have h3 := hff 3 f3 g3
  rw [o3, t3, cells_ints] at h3
  obtain ⟨f4, g4, o4, t4⟩ := field5_4
  have h4 := hff 4 f4 g4
  rw [o4, t4, cells_ints] at h4
  have x2 : xs[2]? = some xs[2] := List.getElem?_eq_getElem (by omega)
  have z2 := WL.field hu g2 x2 hz
  rw [t2] at z2
  rw [x2] at h2
  rw [List.getElem?_eq_getElem (by omega)] at h0 h1 h3 h4
  obtain ⟨T, e0, _⟩ := DataW.trod_int Tryz.underlying3 h0
  obtain ⟨M, e1, _⟩ := DataW.trod_int Tryz.underlying3 h1
  obtain ⟨y2, e2⟩ := one_in hcl 2 (by decide)
  obtain ⟨y3, e3⟩ := one_in hcl 3 (by decide)
  obtain ⟨y4, e4⟩ := one_in hcl 4 (by decide)
  rw [e2] at h2
  rw [e3] at h3
  rw [e4] at h4
  obtain ⟨ps, pa, pc, rfl, hP, m1, hH⟩ := progs_held h2 z2
  obtain ⟨pl, la, lc, rfl, hL, m2⟩ := ints_held h3
  obtain ⟨dr, da, dc, rfl, hD, m3⟩ := ints_held h4
  refine ⟨T, M, ps, pl, dr, pa, la, da, pc, lc, dc, ?_, ⟨hP, hL, hD, m1, m2, m3⟩, hH⟩
  have hc : v.cells = #[.int .i64 T, .int .i64 M, .slice pa ps.length pc, .slice la pl.length lc, .slice da dr.length dc] := by
    apply Array.toList_inj.1
    have q0 := De.one_of e0
    have q1 := De.one_of e1
    have q2 := De.one_of e2
    have q3 := De.one_of e3
    have q4 := De.one_of e4
    generalize v.cells.toList = L at *
    match L, hcl with
    | [y0, y1, y2, y3, y4], _ =>
      simp at q0 q1 q2 q3 q4
      simp [q0, q1, q2, q3, q4]
  cases v with
  | agg cs => rw [← hc]; rfl
  | _ => have := congrArg Array.size hc; simp [Value.cells] at this
end
end Sh
end Go.Proofs.YtkcbokhkmcmpdaaGreat
