import Derived.Test.YtblfimobiibmjaaGreatZjAh16
import Derived.SizedLaws
import Derived.Deep.LoopGhost
import Derived.Laws.IdiomCopy
/- A script among a law's arguments, opened. -/
namespace Go.Proofs.YtblfimobiibmjaaGreat
open Go.ChangeShapes Go.WideShapes Go.ChangeAt Go.RowKit
namespace Sh
open De Ba Re

section
variable {H : Type} {enc : TypeId × Value → H} {w : World}
/-- within the form's own reach -/
def WL (t : TypeId) (d : DataW H) : Prop := ∀ m ∈ d.weights Tryz.prog t, m ≤ reachBytes
theorem mem_all {e : TypeId} : ∀ {l : List (DataW H)} {d : DataW H}, d ∈ l → ∀ n ∈ d.weights Tryz.prog e, n ∈ DataW.weightsAll Tryz.prog e l
  | d' :: r, d, hd, n, hn => by
    simp only [DataW.weightsAll, List.mem_append]
    rcases List.mem_cons.1 hd with rfl | h
    · exact Or.inl hn
    · exact Or.inr (mem_all h n hn)
theorem WL.field {t : TypeId} {fs : Array Field} {xs : List (DataW H × List MemPlace)} {j : Nat} {f : Field} {y : DataW H × List MemPlace} (hu : Tryz.prog.underlying t = some (.struct fs)) (hf : fs[j]? = some f) (hx : xs[j]? = some y) (hz : WL t (DataW.agg (xs.map (·.1)))) : WL f.type y.1 := by
  intro m hm
  apply hz
  simp only [DataW.weights, hu]
  refine DataW.weights_mem_each (j := j) ?_ ?_ m hm
  · rw [List.getElem?_map, Array.getElem?_toList, hf]
    rfl
  · rw [List.getElem?_map, hx]
    rfl
theorem WL.elem {t e : TypeId} {l sp : List (DataW H)} (hu : Tryz.prog.underlying t = some (.slice e)) (hz : WL t (DataW.slice l sp)) : (l.length + sp.length) * Tryz.prog.bytesOf e ≤ reachBytes ∧ ∀ d ∈ l, WL e d := by
  unfold WL at hz
  simp only [DataW.weights, hu] at hz
  exact ⟨hz _ (List.mem_cons_self ..), fun d hd m hm => hz _ (List.mem_cons_of_mem _ (List.mem_append_left _ (mem_all hd m hm)))⟩
theorem WL.elemAt {t e : TypeId} {len : Nat} {D : Nat → DataW H} {sp : List (DataW H)} (hu : Tryz.prog.underlying t = some (.slice e)) (hz : WL t (DataW.slice ((List.range len).map D) sp)) (i : Nat) (hi : i < len) : WL e (D i) :=
  (hz.elem hu).2 _ (List.mem_map.2 ⟨i, List.mem_range.2 hi, rfl⟩)

theorem bytes_case : Tryz.prog.bytesOf 166 = 24 := by kernel_rfl
theorem cells_pr : Tryz.prog.cellsOf 65 = 1 := by kernel_rfl
theorem cells_prs : Tryz.prog.cellsOf 66 = 1 := by kernel_rfl
theorem cells_ints : Tryz.prog.cellsOf 67 = 1 := by kernel_rfl
theorem cells_sc : Tryz.prog.cellsOf 69 = 5 := by kernel_rfl

theorem cases_held {n : Nat} {v : Value} {x : DataW H × List MemPlace} (h : DataW.trod enc Tryz.prog w 0 (fun _ => true) true n 62 [v] = some x) (hz : WL 62 x.1) : ∃ (l : List Cs) (oa : Option Addr) (c : Nat), v = .slice oa l.length c ∧ CAt w oa l ∧ l.length ≤ maxLen ∧ l.length ≤ 140737488355328 := by
  obtain ⟨l, oa, c, rfl, hA, hm⟩ := cases_open h
  refine ⟨l, oa, c, rfl, hA, hm, ?_⟩
  rcases Go.Deep.open_slice Tryz.underlying62 h with ⟨hcs, _⟩ | ⟨a, len, cap, m, n', D, Pl, hcs, _, hl, _, hmm, hx, _⟩
  · simp at hcs
    have := hcs.2.1
    simp [this]
  · simp at hcs
    obtain ⟨_, e, _⟩ := hcs
    rw [hx] at hz
    have := (WL.elem Tryz.underlying62 hz).1
    rw [bytes_case] at this
    simp [reachBytes] at this
    omega

theorem op_held {n : Nat} {cs : List Value} {x : DataW H × List MemPlace} (h : DataW.trod enc Tryz.prog w 0 (fun _ => true) true n 64 cs = some x) (hz : WL 64 x.1) :
    ∃ (o : OpD) (oa : Option Addr) (c : Nat), (cs[0]? = some (.int .i64 o.kind) ∧ cs[1]? = some (.int .i64 o.a) ∧ cs[2]? = some (.int .i64 o.b) ∧ cs[3]? = some (.slice oa o.cases.length c) ∧ cs[4]? = some (.bool o.def_)) ∧ CAt w oa o.cases ∧ o.cases.length ≤ maxLen ∧ o.cases.length ≤ 140737488355328 := by
  obtain ⟨fs, hu, hsz, field5_0, field5_1, field5_2, field5_3, field5_4⟩ := fields5
  obtain ⟨xs, k, _, hxx, hcl, hxl, hff⟩ := DataW.trod_struct hu h
  rw [hxx] at hz
  rw [hsz] at hxl
  rw [cells_op] at hcl
  obtain ⟨f0, g0, o0, t0⟩ := field5_0
  have h0 := hff 0 f0 g0
  rw [o0, t0, De.cells_int] at h0
  obtain ⟨f1, g1, o1, t1⟩ := field5_1
  have h1 := hff 1 f1 g1
  rw [o1, t1, De.cells_int] at h1
  obtain ⟨f2, g2, o2, t2⟩ := field5_2
  have h2 := hff 2 f2 g2
  rw [o2, t2, De.cells_int] at h2
  obtain ⟨f3, g3, o3, t3⟩ := field5_3
  have h3 := hff 3 f3 g3
  rw [o3, t3, cells_cases] at h3
  obtain ⟨f4, g4, o4, t4⟩ := field5_4
  have h4 := hff 4 f4 g4
  rw [o4, t4, cells_bool] at h4
  have x3 : xs[3]? = some xs[3] := List.getElem?_eq_getElem (by omega)
  have z3 := WL.field hu g3 x3 hz
  rw [t3] at z3
  rw [x3] at h3
  rw [List.getElem?_eq_getElem (by omega)] at h0 h1 h2 h4
  obtain ⟨i0, e0, _⟩ := DataW.trod_int Tryz.underlying3 h0
  obtain ⟨i1, e1, _⟩ := DataW.trod_int Tryz.underlying3 h1
  obtain ⟨i2, e2, _⟩ := DataW.trod_int Tryz.underlying3 h2
  obtain ⟨i4, e4, _⟩ := DataW.trod_bool Tryz.underlying4 h4
  have hq : ∃ z, (cs.drop 3).take 1 = [z] := by
    have hl : ((cs.drop 3).take 1).length = 1 := by simp; omega
    match hq : (cs.drop 3).take 1, hl with
    | [z], _ => exact ⟨z, rfl⟩
  obtain ⟨z, e3⟩ := hq
  rw [e3] at h3
  obtain ⟨l, oa, c, rfl, hA, hm, hb⟩ := cases_held h3 z3
  exact ⟨⟨i0, i1, i2, l, i4⟩, oa, c, ⟨De.one_of e0, De.one_of e1, De.one_of e2, De.one_of e3, De.one_of e4⟩, hA, hm, hb⟩

theorem ops_held {n : Nat} {v : Value} {x : DataW H × List MemPlace} (h : DataW.trod enc Tryz.prog w 0 (fun _ => true) true n 65 [v] = some x) (hz : WL 65 x.1) : ∃ (l : List OpD) (oa : Option Addr) (c : Nat), v = .slice oa l.length c ∧ OAt w oa l ∧ l.length ≤ maxLen ∧ ∀ o ∈ l, o.cases.length ≤ 140737488355328 := by
  rcases Go.Deep.open_slice Tryz.underlying65 h with ⟨hcs, _⟩ | ⟨a, len, cap, m, n', D, Pl, hcs, _, hl, hm, hmm, hx, hel⟩
  · simp at hcs
    subst hcs
    exact ⟨[], none, 0, rfl, OAt.nil _ _, Nat.zero_le _, fun o ho => by cases ho⟩
  · simp at hcs
    subst hcs
    have hmc : m = cap := by simpa using hmm
    subst hmc
    rw [hx] at hz
    have key : ∀ i, i < len → ∃ o : OpD, (∃ ca cc, (w.cell? ((a.add (i * 5)).add 0) = some (.int .i64 o.kind) ∧ w.cell? ((a.add (i * 5)).add 1) = some (.int .i64 o.a) ∧ w.cell? ((a.add (i * 5)).add 2) = some (.int .i64 o.b) ∧ w.cell? ((a.add (i * 5)).add 3) = some (.slice ca o.cases.length cc) ∧ w.cell? ((a.add (i * 5)).add 4) = some (.bool o.def_)) ∧ CAt w ca o.cases) ∧ o.cases.length ≤ maxLen ∧ o.cases.length ≤ 140737488355328 := by
      intro i hi
      obtain ⟨cs', h1, h2⟩ := hel i (by omega)
      rw [cells_op] at h1
      obtain ⟨_, _, hcell⟩ := World.cells?_some h1
      obtain ⟨o, ca, cc, ⟨q0, q1, q2, q3, q4⟩, hC, hM, hB⟩ := op_held h2 (WL.elemAt Tryz.underlying65 hz i hi)
      exact ⟨o, ⟨ca, cc, ⟨(hcell 0 (by decide)).trans q0, (hcell 1 (by decide)).trans q1, (hcell 2 (by decide)).trans q2, (hcell 3 (by decide)).trans q3, (hcell 4 (by decide)).trans q4⟩, hC⟩, hM, hB⟩
    have fam : ∃ f : Nat → OpD, ∀ i, i < len → (∃ ca cc, (w.cell? ((a.add (i * 5)).add 0) = some (.int .i64 (f i).kind) ∧ w.cell? ((a.add (i * 5)).add 1) = some (.int .i64 (f i).a) ∧ w.cell? ((a.add (i * 5)).add 2) = some (.int .i64 (f i).b) ∧ w.cell? ((a.add (i * 5)).add 3) = some (.slice ca (f i).cases.length cc) ∧ w.cell? ((a.add (i * 5)).add 4) = some (.bool (f i).def_)) ∧ CAt w ca (f i).cases) ∧ (f i).cases.length ≤ maxLen ∧ (f i).cases.length ≤ 140737488355328 := by
      refine ⟨fun i => if hi : i < len then Classical.choose (key i hi) else ⟨0, 0, 0, [], false⟩, fun i hi => ?_⟩
      simp only [dif_pos hi]
      exact Classical.choose_spec (key i hi)
    obtain ⟨f, hf⟩ := fam
    have hlen : ((List.range len).map f).length = len := by simp
    refine ⟨(List.range len).map f, some a, m, by rw [hlen], ?_, by rw [hlen]; omega, ?_⟩
    · intro k o hk
      have hk2 : k < len := by
        have := (List.getElem?_eq_some_iff.1 hk).1
        simpa using this
      have hc : o = f k := by
        simp [hk2] at hk
        exact hk.symm
      subst hc
      obtain ⟨⟨ca, cc, ⟨q0, q1, q2, q3, q4⟩, hC⟩, hM, _⟩ := hf k hk2
      have hspot : a.spot = none := by
        obtain ⟨⟨_, _, ⟨p0, _⟩, _⟩, _⟩ := hf 0 (by omega)
        have := World.cell?_spot p0
        simpa [Addr.add] using this
      obtain ⟨b, off, spot⟩ := a
      simp at hspot
      subst hspot
      rw [Addr.add_lit, Addr.add_lit] at q0 q1 q2 q3 q4
      exact ⟨b, off, ca, cc, rfl, ⟨q0, q1, q2, q3, q4⟩, hC, hM⟩
    · intro o ho
      obtain ⟨i, hi, rfl⟩ := List.mem_map.1 ho
      exact (hf i (List.mem_range.1 hi)).2.2

theorem progs_held {n : Nat} {v : Value} {x : DataW H × List MemPlace} (h : DataW.trod enc Tryz.prog w 0 (fun _ => true) true n 66 [v] = some x) (hz : WL 66 x.1) : ∃ (l : List (List OpD)) (oa : Option Addr) (c : Nat), v = .slice oa l.length c ∧ PAt w oa l ∧ l.length ≤ maxLen ∧ Held l := by
  rcases Go.Deep.open_slice Tryz.underlying66 h with ⟨hcs, _⟩ | ⟨a, len, cap, m, n', D, Pl, hcs, _, hl, hm, hmm, hx, hel⟩
  · simp at hcs
    subst hcs
    exact ⟨[], none, 0, rfl, PAt.nil _ _, Nat.zero_le _, fun o ho => by cases ho⟩
  · simp at hcs
    subst hcs
    have hmc : m = cap := by simpa using hmm
    subst hmc
    rw [hx] at hz
    have key : ∀ i, i < len → ∃ q : List OpD, (∃ ca cc, w.cell? ((a.add (i * 1)).add 0) = some (.slice ca q.length cc) ∧ OAt w ca q) ∧ q.length ≤ maxLen ∧ ∀ o ∈ q, o.cases.length ≤ 140737488355328 := by
      intro i hi
      obtain ⟨cs', h1, h2⟩ := hel i (by omega)
      rw [cells_pr] at h1
      obtain ⟨_, hlc, hcell⟩ := World.cells?_some h1
      match cs', hlc, h2, hcell with
      | [z], _, h2, hcell =>
        obtain ⟨q, ca, cc, rfl, hO, hM, hB⟩ := ops_held h2 (WL.elemAt Tryz.underlying66 hz i hi)
        exact ⟨q, ⟨ca, cc, (hcell 0 (by decide)).trans rfl, hO⟩, hM, hB⟩
    have fam : ∃ f : Nat → List OpD, ∀ i, i < len → (∃ ca cc, w.cell? ((a.add (i * 1)).add 0) = some (.slice ca (f i).length cc) ∧ OAt w ca (f i)) ∧ (f i).length ≤ maxLen ∧ ∀ o ∈ f i, o.cases.length ≤ 140737488355328 := by
      refine ⟨fun i => if hi : i < len then Classical.choose (key i hi) else [], fun i hi => ?_⟩
      simp only [dif_pos hi]
      exact Classical.choose_spec (key i hi)
    obtain ⟨f, hf⟩ := fam
    have hlen : ((List.range len).map f).length = len := by simp
    refine ⟨(List.range len).map f, some a, m, by rw [hlen], ?_, by rw [hlen]; omega, ?_⟩
    · intro k o hk
      have hk2 : k < len := by
        have := (List.getElem?_eq_some_iff.1 hk).1
        simpa using this
      have hc : o = f k := by
        simp [hk2] at hk
        exact hk.symm
      subst hc
      obtain ⟨⟨ca, cc, q0, hC⟩, hM, _⟩ := hf k hk2
      have hspot : a.spot = none := by
        obtain ⟨⟨_, _, p0, _⟩, _⟩ := hf 0 (by omega)
        have := World.cell?_spot p0
        simpa [Addr.add] using this
      obtain ⟨b, off, spot⟩ := a
      simp at hspot
      subst hspot
      rw [Addr.add_lit, Addr.add_lit, Nat.mul_one, Nat.add_zero] at q0
      exact ⟨b, off, ca, cc, rfl, q0, hC, hM⟩
    · intro q hq
      obtain ⟨i, hi, rfl⟩ := List.mem_map.1 hq
      exact (hf i (List.mem_range.1 hi)).2.2

theorem ints_held {n : Nat} {v : Value} {x : DataW H × List MemPlace} (h : DataW.trod enc Tryz.prog w 0 (fun _ => true) true n 67 [v] = some x) : ∃ (l : List Int) (oa : Option Addr) (c : Nat), v = .slice oa l.length c ∧ At w oa l ∧ l.length ≤ maxLen := by
  have hv : ∃ oa len cap, v = .slice oa len cap := by
    rcases Go.Deep.open_slice Tryz.underlying67 h with ⟨hcs, _⟩ | ⟨a, len, cap, m, n', D, Pl, hcs, _⟩
    · simp at hcs; exact ⟨_, _, _, hcs⟩
    · simp at hcs; exact ⟨_, _, _, hcs⟩
  obtain ⟨oa, len, cap, rfl⟩ := hv
  obtain ⟨l, rfl, hA, h1, h2⟩ := ints_open h
  exact ⟨l, oa, cap, rfl, hA, by omega⟩

theorem fieldsS : ∃ fs : Array Field, Tryz.prog.underlying 69 = some (.struct fs) ∧ fs.size = 5 ∧ (∃ f, fs[0]? = some f ∧ f.offset = 0 ∧ f.type = 3) ∧ (∃ f, fs[1]? = some f ∧ f.offset = 1 ∧ f.type = 3) ∧ (∃ f, fs[2]? = some f ∧ f.offset = 2 ∧ f.type = 66) ∧ (∃ f, fs[3]? = some f ∧ f.offset = 3 ∧ f.type = 67) ∧ (∃ f, fs[4]? = some f ∧ f.offset = 4 ∧ f.type = 67) :=
  ⟨_, Tryz.underlying69, rfl, ⟨_, rfl, rfl, rfl⟩, ⟨_, rfl, rfl, rfl⟩, ⟨_, rfl, rfl, rfl⟩, ⟨_, rfl, rfl, rfl⟩, ⟨_, rfl, rfl, rfl⟩⟩
theorem one_in {cs : List Value} (hcl : cs.length = 5) (j : Nat) (hj : j < 5) : ∃ z, (cs.drop j).take 1 = [z] := by
  have hl : ((cs.drop j).take 1).length = 1 := by simp; omega
  match hq : (cs.drop j).take 1, hl with
  | [z], _ => exact ⟨z, rfl⟩

set_option maxRecDepth 100000 in
theorem script_open {n : Nat} {v : Value} {x : DataW H × List MemPlace} (h : DataW.trod enc Tryz.prog w 0 (fun _ => true) true n 69 v.cells.toList = some x) (hz : WL 69 x.1) :
    ∃ (T M : Int) (ps : List (List OpD)) (pl dr : List Int) (pa la da : Option Addr) (pc lc dc : Nat), v = .agg #[.int .i64 T, .int .i64 M, .slice pa ps.length pc, .slice la pl.length lc, .slice da dr.length dc] ∧ SAt w ⟨T, M, ps, pl, dr⟩ pa la da ∧ Held ps := by
  obtain ⟨fs, hu, hsz, field5_0, field5_1, field5_2, field5_3, field5_4⟩ := fieldsS
  obtain ⟨xs, k, _, hxx, hcl, hxl, hff⟩ := DataW.trod_struct hu h
  rw [hxx] at hz
  rw [hsz] at hxl
  rw [cells_sc] at hcl
  obtain ⟨f0, g0, o0, t0⟩ := field5_0
  have h0 := hff 0 f0 g0
  rw [o0, t0, De.cells_int] at h0
  obtain ⟨f1, g1, o1, t1⟩ := field5_1
  have h1 := hff 1 f1 g1
  rw [o1, t1, De.cells_int] at h1
  obtain ⟨f2, g2, o2, t2⟩ := field5_2
  have h2 := hff 2 f2 g2
  rw [o2, t2, cells_prs] at h2
  obtain ⟨f3, g3, o3, t3⟩ := field5_3
  have h3 := hff 3 f3 g3
  rw [o3, t3, cells_ints] at h3
  obtain ⟨f4, g4, o4, t4⟩ := field5_4
  have h4 := hff 4 f4 g4
  rw [o4, t4, cells_ints] at h4
  have x2 : xs[2]? = some xs[2] := List.getElem?_eq_getElem (by omega)
  have z2 := WL.field hu g2 x2 hz
  rw [t2] at z2
  rw [x2] at h2
  rw [List.getElem?_eq_getElem (by omega)] at h0 h1 h3 h4
  obtain ⟨T, e0, _⟩ := DataW.trod_int Tryz.underlying3 h0
  obtain ⟨M, e1, _⟩ := DataW.trod_int Tryz.underlying3 h1
  obtain ⟨y2, e2⟩ := one_in hcl 2 (by decide)
  obtain ⟨y3, e3⟩ := one_in hcl 3 (by decide)
  obtain ⟨y4, e4⟩ := one_in hcl 4 (by decide)
  rw [e2] at h2
  rw [e3] at h3
  rw [e4] at h4
  obtain ⟨ps, pa, pc, rfl, hP, m1, hH⟩ := progs_held h2 z2
  obtain ⟨pl, la, lc, rfl, hL, m2⟩ := ints_held h3
  obtain ⟨dr, da, dc, rfl, hD, m3⟩ := ints_held h4
  refine ⟨T, M, ps, pl, dr, pa, la, da, pc, lc, dc, ?_, ⟨hP, hL, hD, m1, m2, m3⟩, hH⟩
  have hc : v.cells = #[.int .i64 T, .int .i64 M, .slice pa ps.length pc, .slice la pl.length lc, .slice da dr.length dc] := by
    apply Array.toList_inj.1
    have q0 := De.one_of e0
    have q1 := De.one_of e1
    have q2 := De.one_of e2
    have q3 := De.one_of e3
    have q4 := De.one_of e4
    generalize v.cells.toList = L at *
    match L, hcl with
    | [y0, y1, y2, y3, y4], _ =>
      simp at q0 q1 q2 q3 q4
      simp [q0, q1, q2, q3, q4]
  cases v with
  | agg cs => rw [← hc]; rfl
  | _ => have := congrArg Array.size hc; simp [Value.cells] at this
end
end Sh
end Go.Proofs.YtblfimobiibmjaaGreat
/- A bare script: small, right, its own bare one; Copy and Bare by what lies in memory. -/
namespace Go.Proofs.YtblfimobiibmjaaGreat
open Go.ChangeShapes Go.WideShapes Go.ChangeAt Go.RowKit
namespace Sh
open De Ba Re

theorem at_heap {w : World} {D : Nat} {l : List Int} {t : TypeId} (h : w.heap[D]? = some (.cells (row l) t (0, 0))) : At w (some ⟨D, 0, none⟩) l := by
  intro k hk
  refine ⟨D, 0, rfl, ?_⟩
  have := cell_of h k
  rw [Nat.zero_add]
  rw [this, row, List.getElem?_toArray, List.getElem?_map, List.getElem?_eq_getElem hk, nth_lt l k hk]
  rfl
theorem bar_le (l : List Int) : (bar l).length ≤ l.length := List.length_filter_le ..
theorem bar_bar (l : List Int) : bar (bar l) = bar l := by simp [bar]
theorem bar_mem {l : List Int} {x : Int} (h : x ∈ bar l) : x ∈ l ∧ x ≠ -1 := by
  rw [bar, List.mem_filter] at h
  exact ⟨h.1, by simpa using h.2⟩
theorem bar_nth (l : List Int) (k : Nat) (h : k < (bar l).length) : nth (bar l) k ≠ -1 := by
  rw [nth_lt _ k h]
  exact (bar_mem (List.getElem_mem h)).2
theorem Small.bar {ps : List (List OpD)} {pl dr : List Int} (h : Small ps pl dr) : Small ps (bar pl) dr := ⟨h.n, h.q, h.c, Nat.le_trans (bar_le pl) h.p, h.d⟩
theorem schk_of {s : Sc} (h1 : 1 ≤ s.T ∧ s.T ≤ 256) (h2 : 1 ≤ s.M ∧ s.M ≤ 1048576) (h3 : ∀ q ∈ s.ps, q.length ≤ 32) (h4 : s.ps.length ≤ 8) (h5 : s.pl.length ≤ 200) (h6 : s.dr.length ≤ 64) (h7 : 0 < s.ps.length) (h8 : ari s.ps.length s.ps = true) (h9 : ab (-1) 1000 s.pl = true) (h10 : ab 0 1000 s.dr = true) : schk s = 0 := by
  have e : isl s.ps s.pl.length s.dr.length = false := by
    rw [isl_short fun k q hq => h3 q (List.mem_of_getElem? hq)]
    simp
    omega
  have e2 : ¬ s.ps.length = 0 := by omega
  have e3 : decide (s.ps.length = 0) = false := by simpa using e2
  unfold schk
  rw [e, h8, h9, h10, e3]
  simp [h1.1, h1.2, h2.1, h2.2]
theorem schk_bar {T M : Int} {ps : List (List OpD)} {pl dr : List Int} (h : schk ⟨T, M, ps, pl, dr⟩ = 0) : schk ⟨T, M, ps, bar pl, dr⟩ = 0 := by
  obtain ⟨t12, m12, h32, h8, h200, h64, h0, har, hap, had⟩ := schk_zero h
  refine schk_of t12 m12 h32 h8 (Nat.le_trans (bar_le pl) h200) h64 h0 har ?_ had
  rw [ab_iff] at hap ⊢
  exact fun x hx => hap x (bar_mem hx).1

end Sh
end Go.Proofs.YtblfimobiibmjaaGreat
/- Encode and Decode, by what lies in memory; a right script is small. -/
namespace Go.Proofs.YtblfimobiibmjaaGreat
open Go.ChangeShapes Go.WideShapes Go.ChangeAt Go.RowKit
namespace Sh
open De Ba Re

theorem epls_lt (l : List Int) : ∀ b ∈ De.pls l, b < 256 := by
  intro b hb
  simp only [De.pls, List.mem_flatMap] at hb
  obtain ⟨n, _, hb⟩ := hb
  exact spl_lt _ b hb
theorem rpls_lt (l : List Int) : ∀ b ∈ Re.pls l, b < 256 := by
  intro b hb
  simp only [Re.pls, List.mem_flatMap] at hb
  obtain ⟨n, _, hb⟩ := hb
  exact spl_lt _ b hb
theorem plist_lt (l : List Int) : ∀ b ∈ plist l, b < 256 := by
  intro b hb
  rw [plist, List.mem_append] at hb
  rcases hb with hb | hb
  · exact spl_lt _ b hb
  · exact rpls_lt _ b hb
theorem eps_lt (ps : List (List OpD)) : ∀ b ∈ eps ps, b < 256 := by
  intro b hb
  rw [eps, List.mem_flatMap] at hb
  obtain ⟨q, _, hb⟩ := hb
  rw [epr, List.mem_append] at hb
  rcases hb with hb | hb
  · exact spl_lt _ b hb
  · rw [List.mem_flatMap] at hb
    obtain ⟨o, _, hb⟩ := hb
    exact epls_lt _ b hb
theorem sen_lt (s : Sc) : ∀ b ∈ sen s, b < 256 := by
  intro b hb
  simp only [sen, List.mem_append] at hb
  rcases hb with ((hb | hb) | hb) | hb
  · exact epls_lt _ b hb
  · exact eps_lt _ b hb
  · exact plist_lt _ b hb
  · exact plist_lt _ b hb
theorem sen_len {s : Sc} (h : schk s = 0) : (sen s).length ≤ 500000 := by
  obtain ⟨t12, m12, h32, h8, h200, h64, h0, har, hap, had⟩ := schk_zero h
  have h1 := De.pls_len [s.T, s.M, (s.ps.length : Int)]
  have h2 := eps_len har h32 h8 s.ps.length
  rw [List.take_length] at h2
  have h3 := plist_len (mv 1 s.pl) 200 (by rw [mv_len]; exact h200)
  have h4 := plist_len s.dr 64 h64
  simp only [sen, List.length_append]
  simp only [List.length_cons, List.length_nil] at h1
  omega
theorem schk_small {T M : Int} {ps : List (List OpD)} {pl dr : List Int} (h : schk ⟨T, M, ps, pl, dr⟩ = 0) : Small ps pl dr := by
  obtain ⟨t12, m12, h32, h8, h200, h64, h0, har, hap, had⟩ := schk_zero h
  simp only at h32 h8 h200 h64 har
  exact ⟨by omega, fun q hq => Nat.le_trans (h32 q hq) (by decide), fun q hq o ho => Nat.le_trans (chk_zero (ari_mem har hq ho)).2.2.1 (by decide), by omega, by omega⟩
theorem sdec_bytes {b : ByteArray} {s : Sc} (h : sdec b = some s) : bs (sen s) = b ∧ schk s = 0 := by
  obtain ⟨h1, h2⟩ := sdec_cut h
  exact ⟨nbs_inj (by rw [nbs_bs _ (sen_lt s), h1]), h2⟩
theorem sen_back {s : Sc} (h : schk s = 0) (E : ByteArray) (hE : bs (sen s) = E) : sdec E = some s ∧ E.size ≤ 5000000 := by
  subst hE
  refine ⟨sdec_enc h _ (nbs_bs _ (sen_lt s)), ?_⟩
  rw [bs_size]
  have := sen_len h
  omega
end Sh
end Go.Proofs.YtblfimobiibmjaaGreat
/- The reference's row and within, over this seat's program. -/
namespace Go.Proofs.YtblfimobiibmjaaGreat
open Go.ChangeShapes Go.WideShapes Go.ChangeAt Go.RowKit
namespace De
open Ba Re

theorem row_1 (w : World) :
    Calls Tryz.prog 167 #[.int .i64 1] w fun r w' => r = .returned (.string (bs [112, 46])) ∧ Below w.heap.size w w' := by
  show Calls Tryz.prog 167 #[.int .i64 1] w fun r w' => r = .returned (.string ⟨#[112, 46]⟩) ∧ Below w.heap.size w w'
  go_enter Tryz.func167, Tryz.ntmps167
  go_wp2
  go_ret
  exact ⟨rfl, below_alloc _ _⟩
theorem row_2 (w : World) :
    Calls Tryz.prog 167 #[.int .i64 2] w fun r w' => r = .returned (.string (bs [99, 109])) ∧ Below w.heap.size w w' := by
  show Calls Tryz.prog 167 #[.int .i64 2] w fun r w' => r = .returned (.string ⟨#[99, 109]⟩) ∧ Below w.heap.size w w'
  go_enter Tryz.func167, Tryz.ntmps167
  go_wp2
  go_ret
  exact ⟨rfl, below_alloc _ _⟩
theorem row_3 (w : World) :
    Calls Tryz.prog 167 #[.int .i64 3] w fun r w' => r = .returned (.string (bs [99, 118])) ∧ Below w.heap.size w w' := by
  show Calls Tryz.prog 167 #[.int .i64 3] w fun r w' => r = .returned (.string ⟨#[99, 118]⟩) ∧ Below w.heap.size w w'
  go_enter Tryz.func167, Tryz.ntmps167
  go_wp2
  go_ret
  exact ⟨rfl, below_alloc _ _⟩
theorem row_4 (w : World) :
    Calls Tryz.prog 167 #[.int .i64 4] w fun r w' => r = .returned (.string (bs [99, 46])) ∧ Below w.heap.size w w' := by
  show Calls Tryz.prog 167 #[.int .i64 4] w fun r w' => r = .returned (.string ⟨#[99, 46]⟩) ∧ Below w.heap.size w w'
  go_enter Tryz.func167, Tryz.ntmps167
  go_wp2
  go_ret
  exact ⟨rfl, below_alloc _ _⟩
theorem row_5 (w : World) :
    Calls Tryz.prog 167 #[.int .i64 5] w fun r w' => r = .returned (.string (bs [99, 46])) ∧ Below w.heap.size w w' := by
  show Calls Tryz.prog 167 #[.int .i64 5] w fun r w' => r = .returned (.string ⟨#[99, 46]⟩) ∧ Below w.heap.size w w'
  go_enter Tryz.func167, Tryz.ntmps167
  go_wp2
  go_ret
  exact ⟨rfl, below_alloc _ _⟩
theorem row_6 (w : World) :
    Calls Tryz.prog 167 #[.int .i64 6] w fun r w' => r = .returned (.string (bs [46, 46])) ∧ Below w.heap.size w w' := by
  show Calls Tryz.prog 167 #[.int .i64 6] w fun r w' => r = .returned (.string ⟨#[46, 46]⟩) ∧ Below w.heap.size w w'
  go_enter Tryz.func167, Tryz.ntmps167
  go_wp2
  go_ret
  exact ⟨rfl, below_alloc _ _⟩
theorem row_7 (w : World) :
    Calls Tryz.prog 167 #[.int .i64 7] w fun r w' => r = .returned (.string (bs [120, 46])) ∧ Below w.heap.size w w' := by
  show Calls Tryz.prog 167 #[.int .i64 7] w fun r w' => r = .returned (.string ⟨#[120, 46]⟩) ∧ Below w.heap.size w w'
  go_enter Tryz.func167, Tryz.ntmps167
  go_wp2
  go_ret
  exact ⟨rfl, below_alloc _ _⟩
theorem row_8 (w : World) :
    Calls Tryz.prog 167 #[.int .i64 8] w fun r w' => r = .returned (.string (bs [120, 46])) ∧ Below w.heap.size w w' := by
  show Calls Tryz.prog 167 #[.int .i64 8] w fun r w' => r = .returned (.string ⟨#[120, 46]⟩) ∧ Below w.heap.size w w'
  go_enter Tryz.func167, Tryz.ntmps167
  go_wp2
  go_ret
  exact ⟨rfl, below_alloc _ _⟩
theorem row_9 (w : World) :
    Calls Tryz.prog 167 #[.int .i64 9] w fun r w' => r = .returned (.string (bs [46, 46])) ∧ Below w.heap.size w w' := by
  show Calls Tryz.prog 167 #[.int .i64 9] w fun r w' => r = .returned (.string ⟨#[46, 46]⟩) ∧ Below w.heap.size w w'
  go_enter Tryz.func167, Tryz.ntmps167
  go_wp2
  go_ret
  exact ⟨rfl, below_alloc _ _⟩
theorem within_p (n p : Int) (w : World) :
    Calls Tryz.prog 168 #[.int .i64 n, .int .u8 112, .int .i64 p] w fun r w' => r = .returned (.bool (decide (0 ≤ n) && decide (n < p))) ∧ w' = w := by
  by_cases h1 : 0 ≤ n
  · have e : (decide (0 ≤ n) && decide (n < p)) = decide (n < p) := by simp [h1]
    rw [e]
    clear e
    go_enter Tryz.func168, Tryz.ntmps168
    go_wp2
    go_ret
    exact ⟨rfl, rfl⟩
  · have e : (decide (0 ≤ n) && decide (n < p)) = false := by simp [h1]
    rw [e]
    clear e
    go_enter Tryz.func168, Tryz.ntmps168
    go_wp2
    go_ret
    exact ⟨rfl, rfl⟩
theorem within_c (n p : Int) (w : World) :
    Calls Tryz.prog 168 #[.int .i64 n, .int .u8 99, .int .i64 p] w fun r w' => r = .returned (.bool (decide (0 ≤ n) && decide (n < 8))) ∧ w' = w := by
  by_cases h1 : 0 ≤ n
  · have e : (decide (0 ≤ n) && decide (n < 8)) = decide (n < 8) := by simp [h1]
    rw [e]
    clear e
    go_enter Tryz.func168, Tryz.ntmps168
    go_wp2
    go_ret
    exact ⟨rfl, rfl⟩
  · have e : (decide (0 ≤ n) && decide (n < 8)) = false := by simp [h1]
    rw [e]
    clear e
    go_enter Tryz.func168, Tryz.ntmps168
    go_wp2
    go_ret
    exact ⟨rfl, rfl⟩
theorem within_x (n p : Int) (w : World) :
    Calls Tryz.prog 168 #[.int .i64 n, .int .u8 120, .int .i64 p] w fun r w' => r = .returned (.bool (decide (0 ≤ n) && decide (n < 8))) ∧ w' = w := by
  by_cases h1 : 0 ≤ n
  · have e : (decide (0 ≤ n) && decide (n < 8)) = decide (n < 8) := by simp [h1]
    rw [e]
    clear e
    go_enter Tryz.func168, Tryz.ntmps168
    go_wp2
    go_ret
    exact ⟨rfl, rfl⟩
  · have e : (decide (0 ≤ n) && decide (n < 8)) = false := by simp [h1]
    rw [e]
    clear e
    go_enter Tryz.func168, Tryz.ntmps168
    go_wp2
    go_ret
    exact ⟨rfl, rfl⟩
theorem within_m (n p : Int) (w : World) :
    Calls Tryz.prog 168 #[.int .i64 n, .int .u8 109, .int .i64 p] w fun r w' => r = .returned (.bool (decide (0 ≤ n) && decide (n ≤ 4))) ∧ w' = w := by
  by_cases h1 : 0 ≤ n
  · have e : (decide (0 ≤ n) && decide (n ≤ 4)) = decide (n ≤ 4) := by simp [h1]
    rw [e]
    clear e
    go_enter Tryz.func168, Tryz.ntmps168
    go_wp2
    go_ret
    exact ⟨rfl, rfl⟩
  · have e : (decide (0 ≤ n) && decide (n ≤ 4)) = false := by simp [h1]
    rw [e]
    clear e
    go_enter Tryz.func168, Tryz.ntmps168
    go_wp2
    go_ret
    exact ⟨rfl, rfl⟩
theorem within_v (n p : Int) (w : World) :
    Calls Tryz.prog 168 #[.int .i64 n, .int .u8 118, .int .i64 p] w fun r w' => r = .returned (.bool (decide (0 ≤ n) && decide (n ≤ 99))) ∧ w' = w := by
  by_cases h1 : 0 ≤ n
  · have e : (decide (0 ≤ n) && decide (n ≤ 99)) = decide (n ≤ 99) := by simp [h1]
    rw [e]
    clear e
    go_enter Tryz.func168, Tryz.ntmps168
    go_wp2
    go_ret
    exact ⟨rfl, rfl⟩
  · have e : (decide (0 ≤ n) && decide (n ≤ 99)) = false := by simp [h1]
    rw [e]
    clear e
    go_enter Tryz.func168, Tryz.ntmps168
    go_wp2
    go_ret
    exact ⟨rfl, rfl⟩
theorem within_d (n p : Int) (w : World) :
    Calls Tryz.prog 168 #[.int .i64 n, .int .u8 46, .int .i64 p] w fun r w' => r = .returned (.bool (n == 0)) ∧ w' = w := by
  go_enter Tryz.func168, Tryz.ntmps168
  go_wp2
  go_ret
  exact ⟨rfl, rfl⟩
/-- a kind's two signs -/
def sA (k : Int) : Nat := if k = 1 then 112 else if k = 2 ∨ k = 3 ∨ k = 4 ∨ k = 5 then 99 else if k = 7 ∨ k = 8 then 120 else 46
def sB (k : Int) : Nat := if k = 2 then 109 else if k = 3 then 118 else 46
theorem row_any (k : Int) (h1 : 1 ≤ k) (h2 : k ≤ 9) (w : World) :
    Calls Tryz.prog 167 #[.int .i64 k] w fun r w' => r = .returned (.string (bs [sA k, sB k])) ∧ Below w.heap.size w w' := by
  rcases kind_cases h1 h2 with rfl | rfl | rfl | rfl | rfl | rfl | rfl | rfl | rfl
  · exact row_1 w
  · exact row_2 w
  · exact row_3 w
  · exact row_4 w
  · exact row_5 w
  · exact row_6 w
  · exact row_7 w
  · exact row_8 w
  · exact row_9 w
theorem withinA (k n p : Int) (h1 : 1 ≤ k) (h2 : k ≤ 9) (w : World) :
    Calls Tryz.prog 168 #[.int .i64 n, .int .u8 (sA k : Int), .int .i64 p] w fun r w' => r = .returned (.bool (upB n (mA k p))) ∧ w' = w := by
  rcases kind_cases h1 h2 with rfl | rfl | rfl | rfl | rfl | rfl | rfl | rfl | rfl
  · have e : upB n (mA 1 p) = (decide (0 ≤ n) && decide (n < p)) := by
      simp only [upB, mA, if_true]
      congr 1
      exact decide_eq_decide.2 (by omega)
    rw [e]
    exact within_p n p w
  · have e : upB n (mA 2 p) = (decide (0 ≤ n) && decide (n < 8)) := by
      have : mA 2 p = 7 := rfl
      simp only [upB, this]
      congr 1
      exact decide_eq_decide.2 (by omega)
    rw [e]
    exact within_c n p w
  · have e : upB n (mA 3 p) = (decide (0 ≤ n) && decide (n < 8)) := by
      have : mA 3 p = 7 := rfl
      simp only [upB, this]
      congr 1
      exact decide_eq_decide.2 (by omega)
    rw [e]
    exact within_c n p w
  · have e : upB n (mA 4 p) = (decide (0 ≤ n) && decide (n < 8)) := by
      have : mA 4 p = 7 := rfl
      simp only [upB, this]
      congr 1
      exact decide_eq_decide.2 (by omega)
    rw [e]
    exact within_c n p w
  · have e : upB n (mA 5 p) = (decide (0 ≤ n) && decide (n < 8)) := by
      have : mA 5 p = 7 := rfl
      simp only [upB, this]
      congr 1
      exact decide_eq_decide.2 (by omega)
    rw [e]
    exact within_c n p w
  · have e : upB n (mA 6 p) = (n == 0) := by
      have : mA 6 p = 0 := rfl
      rw [Bool.eq_iff_iff, upB_iff, this]
      simp
      omega
    rw [e]
    exact within_d n p w
  · have e : upB n (mA 7 p) = (decide (0 ≤ n) && decide (n < 8)) := by
      have : mA 7 p = 7 := rfl
      simp only [upB, this]
      congr 1
      exact decide_eq_decide.2 (by omega)
    rw [e]
    exact within_x n p w
  · have e : upB n (mA 8 p) = (decide (0 ≤ n) && decide (n < 8)) := by
      have : mA 8 p = 7 := rfl
      simp only [upB, this]
      congr 1
      exact decide_eq_decide.2 (by omega)
    rw [e]
    exact within_x n p w
  · have e : upB n (mA 9 p) = (n == 0) := by
      have : mA 9 p = 0 := rfl
      rw [Bool.eq_iff_iff, upB_iff, this]
      simp
      omega
    rw [e]
    exact within_d n p w
theorem withinB (k n p : Int) (h1 : 1 ≤ k) (h2 : k ≤ 9) (w : World) :
    Calls Tryz.prog 168 #[.int .i64 n, .int .u8 (sB k : Int), .int .i64 p] w fun r w' => r = .returned (.bool (upB n (mB k))) ∧ w' = w := by
  rcases kind_cases h1 h2 with rfl | rfl | rfl | rfl | rfl | rfl | rfl | rfl | rfl
  · have e : upB n (mB 1) = (n == 0) := by
      have : mB 1 = 0 := rfl
      rw [Bool.eq_iff_iff, upB_iff, this]
      simp
      omega
    rw [e]
    exact within_d n p w
  · exact within_m n p w
  · exact within_v n p w
  · have e : upB n (mB 4) = (n == 0) := by
      have : mB 4 = 0 := rfl
      rw [Bool.eq_iff_iff, upB_iff, this]
      simp
      omega
    rw [e]
    exact within_d n p w
  · have e : upB n (mB 5) = (n == 0) := by
      have : mB 5 = 0 := rfl
      rw [Bool.eq_iff_iff, upB_iff, this]
      simp
      omega
    rw [e]
    exact within_d n p w
  · have e : upB n (mB 6) = (n == 0) := by
      have : mB 6 = 0 := rfl
      rw [Bool.eq_iff_iff, upB_iff, this]
      simp
      omega
    rw [e]
    exact within_d n p w
  · have e : upB n (mB 7) = (n == 0) := by
      have : mB 7 = 0 := rfl
      rw [Bool.eq_iff_iff, upB_iff, this]
      simp
      omega
    rw [e]
    exact within_d n p w
  · have e : upB n (mB 8) = (n == 0) := by
      have : mB 8 = 0 := rfl
      rw [Bool.eq_iff_iff, upB_iff, this]
      simp
      omega
    rw [e]
    exact within_d n p w
  · have e : upB n (mB 9) = (n == 0) := by
      have : mB 9 = 0 := rfl
      rw [Bool.eq_iff_iff, upB_iff, this]
      simp
      omega
    rw [e]
    exact within_d n p w
end De
end Go.Proofs.YtblfimobiibmjaaGreat
/- The reference's Check, over this seat's program. -/
namespace Go.Proofs.YtblfimobiibmjaaGreat
open Go.ChangeShapes Go.WideShapes Go.ChangeAt Go.RowKit
namespace De
open Ba Re

theorem up7 (n : Int) : upB n 7 = (decide (0 ≤ n) && decide (n < 8)) := by
  unfold upB
  congr 1
  exact decide_eq_decide.2 (by omega)
theorem rchan (n : Int) (x : Bool) (h : upB n 7 = x) (w : World) :
    Calls Tryz.prog 168 #[.int .i64 n, .int .u8 99, .int .i64 0] w fun r w' => r = .returned (.bool x) ∧ w' = w := by
  rw [← h, up7]
  exact within_c n 0 w
theorem rval (n : Int) (x : Bool) (h : upB n 99 = x) (w : World) :
    Calls Tryz.prog 168 #[.int .i64 n, .int .u8 118, .int .i64 0] w fun r w' => r = .returned (.bool x) ∧ w' = w := by
  rw [← h]
  exact within_v n 0 w
theorem withinA_is (k n p : Int) (x : Bool) (h1 : 1 ≤ k) (h2 : k ≤ 9) (hx : upB n (mA k p) = x) (w : World) :
    Calls Tryz.prog 168 #[.int .i64 n, .int .u8 (sA k : Int), .int .i64 p] w fun r w' => r = .returned (.bool x) ∧ w' = w := by
  rw [← hx]
  exact withinA k n p h1 h2 w
theorem withinB_is (k n p : Int) (x : Bool) (h1 : 1 ≤ k) (h2 : k ≤ 9) (hx : upB n (mB k) = x) (w : World) :
    Calls Tryz.prog 168 #[.int .i64 n, .int .u8 (sB k : Int), .int .i64 p] w fun r w' => r = .returned (.bool x) ∧ w' = w := by
  rw [← hx]
  exact withinB k n p h1 h2 w
theorem sgA (k : Int) (h1 : 1 ≤ k) (h2 : k ≤ 9) : sA k < 256 ∧ sB k < 256 := by
  rcases kind_cases h1 h2 with rfl | rfl | rfl | rfl | rfl | rfl | rfl | rfl | rfl <;> decide
theorem ixA (k : Int) (h1 : 1 ≤ k) (h2 : k ≤ 9) (w : World) : (Instr.index 9 (.string (bs [sA k, sB k])) (.int .i64 0)).run Tryz.prog w = .ok (.int .u8 (sA k : Int)) w := by
  have h := sgA k h1 h2
  have := ix_str (bs [sA k, sB k]) 0 (sA k) (by rw [nbs_bs _ (by simp; omega)]; rfl) w
  exact this
theorem ixB (k : Int) (h1 : 1 ≤ k) (h2 : k ≤ 9) (w : World) : (Instr.index 9 (.string (bs [sA k, sB k])) (.int .i64 1)).run Tryz.prog w = .ok (.int .u8 (sB k : Int)) w := by
  have h := sgA k h1 h2
  have := ix_str (bs [sA k, sB k]) 1 (sB k) (by rw [nbs_bs _ (by simp; omega)]; rfl) w
  exact this

set_option maxHeartbeats 800000 in
theorem rcheck_arg (o : OpD) (oa : Option Addr) (c : Nat) (p : Int) (w : World) (h : (okP p && (decide (1 ≤ o.kind) && decide (o.kind ≤ 9))) = false) :
    Calls Tryz.prog 142 #[.agg #[.int .i64 o.kind, .int .i64 o.a, .int .i64 o.b, .slice oa o.cases.length c, .bool o.def_], .int .i64 p] w fun r w' => r = .returned (.int .i64 1) ∧ Below w.heap.size w w' := by
  obtain ⟨k, a, b, cs, d⟩ := o
  have hk : p < 1 ∨ 8 < p ∨ k < 1 ∨ 9 < k := by
    simp [okP] at h
    by_cases q1 : 1 ≤ p
    · by_cases q2 : p ≤ 8
      · by_cases q3 : 1 ≤ k
        · have := h q1 q2 q3; omega
        · omega
      · omega
    · omega
  clear h
  by_cases h1 : p < 1
  · have d1 : decide (p < 1) = true := by simpa using h1
    clear hk
    go_enter Tryz.func142, Tryz.ntmps142
    go_wp2_with fail
    go_ret
    exact ⟨rfl, below_alloc _ _⟩
  have d1 : decide (p < 1) = false := by simpa using h1
  by_cases h2 : 8 < p
  · have d2 : decide (8 < p) = true := by simpa using h2
    clear hk
    go_enter Tryz.func142, Tryz.ntmps142
    go_wp2_with fail
    go_ret
    exact ⟨rfl, below_alloc _ _⟩
  have d2 : decide (8 < p) = false := by simpa using h2
  by_cases h3 : k < 1
  · have d3 : decide (k < 1) = true := by simpa using h3
    clear hk
    go_enter Tryz.func142, Tryz.ntmps142
    go_wp2_with fail
    go_ret
    exact ⟨rfl, below_alloc _ _⟩
  have d3 : decide (k < 1) = false := by simpa using h3
  have d4 : decide (9 < k) = true := by simp; omega
  clear hk
  go_enter Tryz.func142, Tryz.ntmps142
  go_wp2_with fail
  go_ret
  exact ⟨rfl, below_alloc _ _⟩

set_option maxHeartbeats 800000 in
theorem rcheck_long (o : OpD) (oa : Option Addr) (c : Nat) (p : Int) (w : World) (hp : okP p = true) (h1 : 1 ≤ o.kind) (h2 : o.kind ≤ 9) (hl : 4 < o.cases.length) (hm : o.cases.length ≤ maxLen) :
    Calls Tryz.prog 142 #[.agg #[.int .i64 o.kind, .int .i64 o.a, .int .i64 o.b, .slice oa o.cases.length c, .bool o.def_], .int .i64 p] w fun r w' => r = .returned (.int .i64 2) ∧ Below w.heap.size w w' := by
  obtain ⟨k, a, b, cs, d⟩ := o
  unfold maxLen at hm
  obtain ⟨p1, p2⟩ := (okP_iff p).1 hp
  simp only at h1 h2 hl hm ⊢
  have e1 : decide (p < 1) = false := by simp; omega
  have e2 : decide (8 < p) = false := by simp; omega
  have d1 : decide (k < 1) = false := by simp; omega
  have d2 : decide (9 < k) = false := by simp; omega
  have d3 : decide ((4 : Int) < (cs.length : Int)) = true := by simp; omega
  clear hp
  go_enter Tryz.func142, Tryz.ntmps142
  go_wp2_with fail
  go_ret
  exact ⟨rfl, below_alloc _ _⟩
theorem op_cells {w : World} {b : Nat} {x0 x1 x2 x3 x4 : Value} {t : TypeId} {fr : Nat × Nat} (h : w.heap[b]? = some (.cells #[x0, x1, x2, x3, x4] t fr)) : w.cell? ⟨b, 0, none⟩ = some x0 ∧ w.cell? ⟨b, 1, none⟩ = some x1 ∧ w.cell? ⟨b, 2, none⟩ = some x2 ∧ w.cell? ⟨b, 3, none⟩ = some x3 ∧ w.cell? ⟨b, 4, none⟩ = some x4 := ⟨cell_of h 0, cell_of h 1, cell_of h 2, cell_of h 3, cell_of h 4⟩

set_option maxHeartbeats 1600000 in
theorem rcheck_main (o : OpD) (oa : Option Addr) (c : Nat) (p : Int) (w : World) (hp : okP p = true) (h1 : 1 ≤ o.kind) (h2 : o.kind ≤ 9) (hl : o.cases.length ≤ 4) (hA : CAt w oa o.cases) (x1 x2 x3 x4 : Bool) (hx1 : upB o.a (mA o.kind p) = x1) (hx2 : upB o.b (mB o.kind) = x2) (hx3 : (o.kind == 6) = x3) (hx4 : (o.def_ || decide (0 < o.cases.length)) = x4) :
    Calls Tryz.prog 142 #[.agg #[.int .i64 o.kind, .int .i64 o.a, .int .i64 o.b, .slice oa o.cases.length c, .bool o.def_], .int .i64 p] w fun r w' => r = .returned (.int .i64 (bif x1 && x2 && (x3 || !x4) && o.cases.all okC then 0 else 4)) ∧ Below w.heap.size w w' := by
  obtain ⟨k, a, b, cs, d⟩ := o
  simp only at h1 h2 hl hA hx1 hx2 hx3 hx4 ⊢
  obtain ⟨p1, p2⟩ := (okP_iff p).1 hp
  have HA := hide hA
  have X1 := hide hx1
  have X2 := hide hx2
  have e1 : decide (p < 1) = false := by simp; omega
  have e2 : decide (8 < p) = false := by simp; omega
  have d1 : decide (k < 1) = false := by simp; omega
  have d2 : decide (9 < k) = false := by simp; omega
  have d3 : decide ((4 : Int) < (cs.length : Int)) = false := by simp; omega
  have d4 : (k != 6) = !x3 := by rw [← hx3]; rfl
  have i0 := ixA k h1 h2
  have i1 := ixB k h1 h2
  have WA := hide (fun w => withinA_is k a p x1 h1 h2 hx1 w)
  have WB := hide (fun w => withinB_is k b p x2 h1 h2 hx2 w)
  have RW := hide (fun w => row_any k h1 h2 w)
  generalize sA k = u at WA RW i0 i1
  generalize sB k = v at WB RW i0 i1
  clear hp hA hx1 hx2 X1 X2
  cases x1
  · clear hx3 hx4 d4
    go_enter Tryz.func142, Tryz.ntmps142
    go_wp2_with fail
    refine (RW.out _).mono ?_
    rintro r w1 ⟨rfl, br⟩
    have P1 := hide (heap_below (heap_new w (.cells #[.int .i64 k, .int .i64 a, .int .i64 b, .slice oa cs.length c, .bool d] 64)) br)
    have B1 := hide (btr (below_alloc _ _) br)
    obtain ⟨y0, y1, y2, y3, y4⟩ := op_cells P1.out
    have HA1 := hide (HA.out.below B1.out)
    clear br
    go_wp2_with fail
    go_quiet ((first | (go_at_call_of 168 (Value.int IntKind.i64 a); exact Calls.quiet_of_same (WA.out _)) | (go_at_call_of 168 (Value.int IntKind.i64 b); exact Calls.quiet_of_same (WB.out _))))
    all_goals
      go_wp2_with fail
      go_ret
      exact ⟨rfl, btr B1.out (bdrew _ _)⟩
  cases x2
  · clear hx3 hx4 d4
    go_enter Tryz.func142, Tryz.ntmps142
    go_wp2_with fail
    refine (RW.out _).mono ?_
    rintro r w1 ⟨rfl, br⟩
    have P1 := hide (heap_below (heap_new w (.cells #[.int .i64 k, .int .i64 a, .int .i64 b, .slice oa cs.length c, .bool d] 64)) br)
    have B1 := hide (btr (below_alloc _ _) br)
    obtain ⟨y0, y1, y2, y3, y4⟩ := op_cells P1.out
    have HA1 := hide (HA.out.below B1.out)
    clear br
    go_wp2_with fail
    go_quiet ((first | (go_at_call_of 168 (Value.int IntKind.i64 a); exact Calls.quiet_of_same (WA.out _)) | (go_at_call_of 168 (Value.int IntKind.i64 b); exact Calls.quiet_of_same (WB.out _))))
    all_goals
      go_wp2_with fail
      go_ret
      exact ⟨rfl, btr B1.out (bdrew _ _)⟩
  go_enter Tryz.func142, Tryz.ntmps142
  go_wp2_with fail
  refine (RW.out _).mono ?_
  rintro r w1 ⟨rfl, br⟩
  have P1 := hide (heap_below (heap_new w (.cells #[.int .i64 k, .int .i64 a, .int .i64 b, .slice oa cs.length c, .bool d] 64)) br)
  have B1 := hide (btr (below_alloc _ _) br)
  obtain ⟨y0, y1, y2, y3, y4⟩ := op_cells P1.out
  have HA1 := hide (HA.out.below B1.out)
  clear br
  go_wp2_with fail
  go_quiet ((first | (go_at_call_of 168 (Value.int IntKind.i64 a); exact Calls.quiet_of_same (WA.out _)) | (go_at_call_of 168 (Value.int IntKind.i64 b); exact Calls.quiet_of_same (WB.out _))))
  cases x3
  · cases x4
    · have hd : d = false := by
        cases d
        · rfl
        · simp at hx4
      have hc0 : cs = [] := by
        rw [hd] at hx4
        simpa using hx4
      subst hd hc0
      clear hx4 hx3
      go_wp2_with fail
      refine wp_loop_rounds 1 ?_
      rw [rounds_succ]
      go_wp2
      go_ret
      exact ⟨rfl, by first | exact btr B1.out (bdrew _ _) | exact btr B1.out (by rw [World.drewN_drewN]; exact bdrew _ _) | exact B1.out⟩
    · clear hx3
      cases cs with
      | nil =>
        have hd : d = true := by simpa using hx4
        subst hd
        clear hx4
        go_wp2_with fail
        go_ret
        exact ⟨rfl, by first | exact btr B1.out (bdrew _ _) | exact btr B1.out (by rw [World.drewN_drewN]; exact bdrew _ _) | exact B1.out⟩
      | cons x t =>
        clear hx4
        go_wp2_with fail
        go_ret
        exact ⟨rfl, by first | exact btr B1.out (bdrew _ _) | exact btr B1.out (by rw [World.drewN_drewN]; exact bdrew _ _) | exact B1.out⟩
  · clear hx4 hx3
    go_wp2_with fail
    go_loopw [63] (fun i wr => ∃ j : Nat, j ≤ cs.length ∧ i = .int .i64 (j : Int) ∧ (∀ q x, q < j → cs[q]? = some x → okC x = true) ∧ Below w.heap.size w wr) (fun i _ => cs.length - (intOf i).toNat)
    case atStart => exact ⟨0, Nat.zero_le _, rfl, fun q x hq => absurd hq (Nat.not_lt_zero _), btr B1.out (bdrew _ _)⟩
    case round =>
      obtain ⟨j, hj, rfl, hall, hb⟩ := hrel
      have HK := hide hall
      have HB := hide hb
      clear hall hb
      by_cases hlt : j < cs.length
      · have hlt' : decide ((j : Int) < (cs.length : Int)) = true := by simp; omega
        obtain ⟨x, hx⟩ : ∃ x, cs[j]? = some x := ⟨cs[j], by simp [hlt]⟩
        obtain ⟨b', off, rfl, q1, q2, q3⟩ := (HA.out.below HB.out) j x hx
        have HX := hide hx
        clear hx
        obtain ⟨sd, ch, vl⟩ := x
        simp only at q1 q2 q3
        obtain ⟨u7, hu7⟩ : ∃ u, upB ch 7 = u := ⟨_, rfl⟩
        obtain ⟨u99, hu99⟩ : ∃ u, upB vl 99 = u := ⟨_, rfl⟩
        have C1 : Hid (∀ w, Calls Tryz.prog 168 #[.int .i64 ch, .int .u8 99, .int .i64 0] w fun r w' => r = .returned (.bool u7) ∧ w' = w) := fun w => rchan ch _ hu7 w
        have C2 : Hid (∀ w, Calls Tryz.prog 168 #[.int .i64 vl, .int .u8 118, .int .i64 0] w fun r w' => r = .returned (.bool u99) ∧ w' = w) := fun w => rval vl _ hu99 w
        have H7 := hide hu7
        have H99 := hide hu99
        clear hu7 hu99
        cases u7
        · have HO : Hid (okC ⟨sd, ch, vl⟩ = false) := by show _ = _; simp only [okC]; rw [H7.out]; rfl
          go_wp2_with (first | (go_at_call_of 168 (Value.int IntKind.u8 99); refine (C1.out _).mono ?_; rintro r w' ⟨rfl, rfl⟩) | (go_at_call_of 168 (Value.int IntKind.u8 118); refine (C2.out _).mono ?_; rintro r w' ⟨rfl, rfl⟩))
          all_goals
            go_ret
            exact ⟨by rw [all_no HX.out HO.out]; simp, btr HB.out (below_alloc _ _)⟩
        · cases sd
          · cases hz : vl == 0
            · have hz' : (vl != 0) = true := by simp [bne, hz]
              have HO : Hid (okC ⟨false, ch, vl⟩ = false) := by show _ = _; simp only [okC]; rw [H7.out]; simp only [cond_false, Bool.true_and]; simp at hz; simp [upB]; omega
              go_wp2_with (first | (go_at_call_of 168 (Value.int IntKind.u8 99); refine (C1.out _).mono ?_; rintro r w' ⟨rfl, rfl⟩) | (go_at_call_of 168 (Value.int IntKind.u8 118); refine (C2.out _).mono ?_; rintro r w' ⟨rfl, rfl⟩))
              all_goals
                go_ret
                exact ⟨by rw [all_no HX.out HO.out]; simp, btr HB.out (below_alloc _ _)⟩
            · have hz' : (vl != 0) = false := by simp [bne, hz]
              have HO : Hid (okC ⟨false, ch, vl⟩ = true) := by show _ = _; simp only [okC]; rw [H7.out]; simp only [cond_false, Bool.true_and]; simp at hz; simp [upB]; omega
              go_wp2_with (first | (go_at_call_of 168 (Value.int IntKind.u8 99); refine (C1.out _).mono ?_; rintro r w' ⟨rfl, rfl⟩) | (go_at_call_of 168 (Value.int IntKind.u8 118); refine (C2.out _).mono ?_; rintro r w' ⟨rfl, rfl⟩))
              all_goals
                go_roundw
                case rel => exact ⟨j + 1, by omega, by go_num, fun q y hq hy => by
                    by_cases e : q = j
                    · subst e
                      have := HX.out
                      rw [hy] at this
                      simp at this
                      subst this
                      exact HO.out
                    · exact HK.out q y (by omega) hy, btr HB.out (below_alloc _ _)⟩
                case measure => simp [intOf]; omega
          · cases u99
            · have HO : Hid (okC ⟨true, ch, vl⟩ = false) := by show _ = _; simp only [okC]; rw [H7.out]; simp only [cond_true, Bool.true_and]; exact H99.out
              go_wp2_with (first | (go_at_call_of 168 (Value.int IntKind.u8 99); refine (C1.out _).mono ?_; rintro r w' ⟨rfl, rfl⟩) | (go_at_call_of 168 (Value.int IntKind.u8 118); refine (C2.out _).mono ?_; rintro r w' ⟨rfl, rfl⟩))
              all_goals
                go_ret
                exact ⟨by rw [all_no HX.out HO.out]; simp, btr HB.out (below_alloc _ _)⟩
            · have HO : Hid (okC ⟨true, ch, vl⟩ = true) := by show _ = _; simp only [okC]; rw [H7.out]; simp only [cond_true, Bool.true_and]; exact H99.out
              go_wp2_with (first | (go_at_call_of 168 (Value.int IntKind.u8 99); refine (C1.out _).mono ?_; rintro r w' ⟨rfl, rfl⟩) | (go_at_call_of 168 (Value.int IntKind.u8 118); refine (C2.out _).mono ?_; rintro r w' ⟨rfl, rfl⟩))
              all_goals
                go_roundw
                case rel => exact ⟨j + 1, by omega, by go_num, fun q y hq hy => by
                    by_cases e : q = j
                    · subst e
                      have := HX.out
                      rw [hy] at this
                      simp at this
                      subst this
                      exact HO.out
                    · exact HK.out q y (by omega) hy, btr HB.out (below_alloc _ _)⟩
                case measure => simp [intOf]; omega
      · have hlt' : decide ((j : Int) < (cs.length : Int)) = false := by simp; omega
        go_wp2_with fail
        go_ret
        exact ⟨by rw [all_yes (fun q x hq => HK.out q x (by have := (List.getElem?_eq_some_iff.1 hq).1; omega) hq)]; rfl, HB.out⟩

theorem rcheck_any (o : OpD) (oa : Option Addr) (c : Nat) (p : Int) (w : World) (hA : CAt w oa o.cases) (hm : o.cases.length ≤ maxLen) :
    Calls Tryz.prog 142 #[.agg #[.int .i64 o.kind, .int .i64 o.a, .int .i64 o.b, .slice oa o.cases.length c, .bool o.def_], .int .i64 p] w fun r w' => r = .returned (.int .i64 (chk o p)) ∧ Below w.heap.size w w' := by
  unfold chk
  by_cases h1 : (okP p && (decide (1 ≤ o.kind) && decide (o.kind ≤ 9))) = false
  · rw [if_pos h1]
    exact rcheck_arg o oa c p w h1
  · rw [if_neg h1]
    have h1' : okP p = true ∧ 1 ≤ o.kind ∧ o.kind ≤ 9 := by simpa using h1
    obtain ⟨hp, hk1, hk2⟩ := h1'
    by_cases h2 : 4 < o.cases.length
    · rw [if_pos h2]
      exact rcheck_long o oa c p w hp hk1 hk2 h2 hm
    · rw [if_neg h2]
      refine (rcheck_main o oa c p w hp hk1 hk2 (by omega) hA _ _ _ _ rfl rfl rfl rfl).mono ?_
      rintro r w' ⟨rfl, hb⟩
      refine ⟨?_, hb⟩
      cases x1 : upB o.a (mA o.kind p) && upB o.b (mB o.kind)
      · simp
      · rw [if_neg (by simp)]
        by_cases h6 : o.kind = 6
        · rw [if_neg (fun q => q.1 h6)]
          have : (o.kind == 6) = true := by simpa using h6
          rw [this]
          cases o.cases.all okC <;> simp
        · have : (o.kind == 6) = false := by simpa using h6
          rw [this]
          cases h4 : (o.def_ || decide (0 < o.cases.length))
          · rw [if_neg (fun q => by simp at q)]
            cases o.cases.all okC <;> simp
          · rw [if_pos ⟨h6, rfl⟩]
            simp
/-- a list is answered -/
def NA (r : Ending) (w' : World) (l : List Int) : Prop := ∃ oa c, r = .returned (.slice oa l.length c) ∧ At w' oa l
end De
end Go.Proofs.YtblfimobiibmjaaGreat
/- The reference's Check of a script, over this seat's program. -/
namespace Go.Proofs.YtblfimobiibmjaaGreat
open Go.ChangeShapes Go.WideShapes Go.ChangeAt Go.RowKit
namespace Sh
open De Ba Re

section
variable {T M : Int} {ps : List (List OpD)} {pl dr : List Int}
theorem schk_1 (h : T < 1 ∨ 256 < T ∨ M < 1 ∨ 1048576 < M) : schk ⟨T, M, ps, pl, dr⟩ = 1 := by
  have : ((decide (1 ≤ T) && decide (T ≤ 256)) && (decide (1 ≤ M) && decide (M ≤ 1048576))) = false := by
    simp
    omega
  simp only [schk, this]
  rfl
theorem good_tm (h : (1 ≤ T ∧ T ≤ 256) ∧ 1 ≤ M ∧ M ≤ 1048576) : ((decide (1 ≤ T) && decide (T ≤ 256)) && (decide (1 ≤ M) && decide (M ≤ 1048576))) = true := by
  simp
  omega
theorem schk_2 (h : (1 ≤ T ∧ T ≤ 256) ∧ 1 ≤ M ∧ M ≤ 1048576) (h2 : isl ps pl.length dr.length = true) : schk ⟨T, M, ps, pl, dr⟩ = 2 := by
  simp only [schk, good_tm h, h2]
  rfl
theorem schk_4a (h : (1 ≤ T ∧ T ≤ 256) ∧ 1 ≤ M ∧ M ≤ 1048576) (h2 : isl ps pl.length dr.length = false) (h3 : ps.length = 0) : schk ⟨T, M, ps, pl, dr⟩ = 4 := by
  simp only [schk, good_tm h, h2]
  simp [h3]
theorem schk_4c (h : (1 ≤ T ∧ T ≤ 256) ∧ 1 ≤ M ∧ M ≤ 1048576) (h2 : isl ps pl.length dr.length = false) (h3 : ari ps.length ps = false) : schk ⟨T, M, ps, pl, dr⟩ = 4 := by
  simp only [schk, good_tm h, h2, h3]
  simp
theorem schk_4b (h : (1 ≤ T ∧ T ≤ 256) ∧ 1 ≤ M ∧ M ≤ 1048576) (h2 : isl ps pl.length dr.length = false) (h3 : ab (-1) 1000 pl = false ∨ ab 0 1000 dr = false) : schk ⟨T, M, ps, pl, dr⟩ = 4 := by
  have : (ab (-1) 1000 pl && ab 0 1000 dr) = false := by
    rcases h3 with h3 | h3 <;> simp [h3]
  simp only [schk, good_tm h, h2, this]
  cases (!(!decide (ps.length = 0) && ari ps.length ps)) <;> rfl
theorem ab_no {lo hi : Int} {l : List Int} {k : Nat} (hk : k < l.length) (h : nth l k < lo ∨ hi < nth l k) : ab lo hi l = false := by
  rw [← Bool.not_eq_true]
  intro e
  have := ab_nth.1 e k hk
  omega
theorem ret_int {a b : Int} (h : a = b) : Ending.returned (.int .i64 b) = Ending.returned (.int .i64 a) := by rw [h]
end

set_option maxRecDepth 100000 in
set_option maxHeartbeats 6400000 in
theorem rscheck_any (T M : Int) (ps : List (List OpD)) (pl dr : List Int) (pa la da : Option Addr) (pc lc dc : Nat) (w : World) (hS : SAt w ⟨T, M, ps, pl, dr⟩ pa la da) :
    Calls Tryz.prog 99 #[.agg #[.int .i64 T, .int .i64 M, .slice pa ps.length pc, .slice la pl.length lc, .slice da dr.length dc]] w fun r w' => r = .returned (.int .i64 (schk ⟨T, M, ps, pl, dr⟩)) ∧ Below w.heap.size w w' := by
  have S0 := hide (hS.below (below_alloc w (.cells #[.int .i64 T, .int .i64 M, .slice pa ps.length pc, .slice la pl.length lc, .slice da dr.length dc] 69)))
  have B0 := hide (below_alloc w (.cells #[.int .i64 T, .int .i64 M, .slice pa ps.length pc, .slice la pl.length lc, .slice da dr.length dc] 69))
  have X0 := hide (heap_new w (.cells #[.int .i64 T, .int .i64 M, .slice pa ps.length pc, .slice la pl.length lc, .slice da dr.length dc] 69))
  have h1 := hS.h1
  have h2 := hS.h2
  have h3 := hS.h3
  unfold maxLen at h1 h2 h3
  simp only at h1 h2 h3
  clear hS
  by_cases a1 : T < 1
  · have g1 : decide (T < 1) = true := by simpa using a1
    go_enter Tryz.func99, Tryz.ntmps99
    go_wp2_with fail
    go_ret
    exact ⟨ret_int (schk_1 (Or.inl a1)), B0.out⟩
  have g1 : decide (T < 1) = false := by simpa using a1
  by_cases a2 : 256 < T
  · have g2 : decide (256 < T) = true := by simpa using a2
    go_enter Tryz.func99, Tryz.ntmps99
    go_wp2_with fail
    go_ret
    exact ⟨ret_int (schk_1 (Or.inr (Or.inl a2))), B0.out⟩
  have g2 : decide (256 < T) = false := by simpa using a2
  by_cases a3 : M < 1
  · have g3 : decide (M < 1) = true := by simpa using a3
    go_enter Tryz.func99, Tryz.ntmps99
    go_wp2_with fail
    go_ret
    exact ⟨ret_int (schk_1 (Or.inr (Or.inr (Or.inl a3)))), B0.out⟩
  have g3 : decide (M < 1) = false := by simpa using a3
  by_cases a4 : 1048576 < M
  · have g4 : decide (1048576 < M) = true := by simpa using a4
    go_enter Tryz.func99, Tryz.ntmps99
    go_wp2_with fail
    go_ret
    exact ⟨ret_int (schk_1 (Or.inr (Or.inr (Or.inr a4)))), B0.out⟩
  have g4 : decide (1048576 < M) = false := by simpa using a4
  have TM : Hid ((1 ≤ T ∧ T ≤ 256) ∧ 1 ≤ M ∧ M ≤ 1048576) := by
    show _ ∧ _
    omega
  clear a1 a2 a3 a4
  by_cases n1 : 8 < ps.length
  · have q1 : decide (8 < (ps.length : Int)) = true := by simp; omega
    go_enter Tryz.func99, Tryz.ntmps99
    go_wp2_with fail
    go_ret
    exact ⟨ret_int (schk_2 TM.out (by simp [isl, n1])), B0.out⟩
  have q1 : decide (8 < (ps.length : Int)) = false := by simp; omega
  by_cases n2 : 200 < pl.length
  · have q2 : decide (200 < (pl.length : Int)) = true := by simp; omega
    go_enter Tryz.func99, Tryz.ntmps99
    go_wp2_with fail
    go_ret
    exact ⟨ret_int (schk_2 TM.out (by simp [isl, n2])), B0.out⟩
  have q2 : decide (200 < (pl.length : Int)) = false := by simp; omega
  by_cases n3 : 64 < dr.length
  · have q3 : decide (64 < (dr.length : Int)) = true := by simp; omega
    go_enter Tryz.func99, Tryz.ntmps99
    go_wp2_with fail
    go_ret
    exact ⟨ret_int (schk_2 TM.out (by simp [isl, n3])), B0.out⟩
  have q3 : decide (64 < (dr.length : Int)) = false := by simp; omega
  go_enter Tryz.func99, Tryz.ntmps99
  go_wp2_with fail
  generalize w.alloc (.cells #[.int .i64 T, .int .i64 M, .slice pa ps.length pc, .slice la pl.length lc, .slice da dr.length dc] 69) = W at S0 B0 X0 ⊢
  obtain ⟨x0, x1, x2, x3, x4⟩ := sc_cells X0.out
  go_loop [50] (fun i => ∃ k : Nat, k ≤ ps.length ∧ i = .int .i64 k ∧ ∀ (j : Nat) (q : List OpD), j < k → ps[j]? = some q → q.length ≤ 32) (fun i => ps.length - (intOf i).toNat)
  case atStart => exact ⟨0, Nat.zero_le _, rfl, fun j q hj => absurd hj (Nat.not_lt_zero _)⟩
  case round =>
    obtain ⟨k, hk, rfl, hall⟩ := hrel
    have HE := hide hall
    clear hall
    by_cases hlt : k < ps.length
    · have hlt' : (k : Int) < (ps.length : Int) := by omega
      obtain ⟨q, hq⟩ : ∃ q, ps[k]? = some q := ⟨ps[k], by simp [hlt]⟩
      obtain ⟨b, off, qa, qc, e1, c1, hO, m1⟩ := S0.out.ps k q hq
      subst e1
      have HQ := hide hq
      unfold maxLen at m1
      clear hq hO
      by_cases hl : 32 < q.length
      · have hl' : decide (32 < (q.length : Int)) = true := by simp; omega
        go_wp2_with fail
        go_ret
        exact ⟨ret_int (schk_2 TM.out (isl_long HQ.out hl)), B0.out⟩
      · have hl' : decide (32 < (q.length : Int)) = false := by simp; omega
        go_wp2_with fail
        go_round
        case rel => exact ⟨k + 1, by omega, by go_num, fun j x hj hx => by
          by_cases e : j = k
          · subst e; rw [HQ.out] at hx; cases hx; omega
          · exact HE.out j x (by omega) hx⟩
        case measure => simp [intOf]; omega
    · have hlt' : ¬ ((k : Int) < (ps.length : Int)) := by omega
      have IS : Hid (isl ps pl.length dr.length = false) := by
        show _ = _
        rw [isl_short fun j q hq => HE.out j q (by have := (List.getElem?_eq_some_iff.1 hq).1; omega) hq]
        simp
        omega
      clear hlt
      by_cases z : ps.length = 0
      · have Z := hide z
        have z' : ((ps.length : Int) == 0) = true := by simpa using z
        clear z
        go_wp2_with fail
        go_ret
        exact ⟨ret_int (schk_4a TM.out IS.out Z.out), B0.out⟩
      have z' : ((ps.length : Int) == 0) = false := by simpa using z
      clear HE
      go_wp2_with fail
      clear hlt' hk
      go_loopw [65] (fun i wr => ∃ k : Nat, k ≤ ps.length ∧ i = .int .i64 k ∧ (∀ (j : Nat) (q : List OpD), j < k → ps[j]? = some q → ∀ (i : Nat) (o : OpD), q[i]? = some o → chk o ps.length = 0) ∧ Below W.heap.size W wr) (fun i _ => ps.length - (intOf i).toNat)
      case atStart => exact ⟨0, Nat.zero_le _, rfl, fun j q hj => absurd hj (Nat.not_lt_zero _), Below.refl _ _⟩
      case round =>
        rename World => w0
        obtain ⟨k, hk, rfl, hall, bw⟩ := hrel
        have HE := hide hall
        have BW := hide bw
        clear hall bw
        by_cases hlt : k < ps.length
        · have hlt' : (k : Int) < (ps.length : Int) := by omega
          obtain ⟨q, hq⟩ : ∃ q, ps[k]? = some q := ⟨ps[k], by simp [hlt]⟩
          obtain ⟨b, off, qa, qc, e1, hc, hO, hm⟩ := (S0.out.ps.below BW.out) k q hq
          subst e1
          have HQ := hide hq
          have HO := hide hO
          unfold maxLen at hm
          clear hq hO
          go_wp2_with fail
          go_loopw [71] (fun i wr => ∃ j : Nat, j ≤ q.length ∧ i = .int .i64 j ∧ (∀ (t : Nat) (o : OpD), t < j → q[t]? = some o → chk o ps.length = 0) ∧ Below w0.heap.size w0 wr) (fun i _ => q.length - (intOf i).toNat)
          case atStart => exact ⟨0, Nat.zero_le _, rfl, fun j q hj => absurd hj (Nat.not_lt_zero _), Below.refl _ _⟩
          case round =>
            obtain ⟨j, hj, rfl, hall, bw2⟩ := hrel
            have HF := hide hall
            have B2 := hide bw2
            clear hall bw2
            by_cases hjl : j < q.length
            · have hjl' : (j : Int) < (q.length : Int) := by omega
              obtain ⟨o, ho⟩ : ∃ o, q[j]? = some o := ⟨q[j], by simp [hjl]⟩
              obtain ⟨b', off', ca, cc, e2, ⟨y0, y1, y2, y3, y4⟩, hC, hM⟩ := (HO.out.below B2.out) j o ho
              subst e2
              have HX := hide ho
              have HC := hide hC
              have HM := hide hM
              clear ho hC hM
              have B3 := hide (btr B2.out (below_alloc wr (.cells #[.int .i64 o.kind, .int .i64 o.a, .int .i64 o.b, .slice ca o.cases.length cc, .bool o.def_] 64)))
              have C3 := hide (HC.out.below (below_alloc wr (.cells #[.int .i64 o.kind, .int .i64 o.a, .int .i64 o.b, .slice ca o.cases.length cc, .bool o.def_] 64)))
              have X3 := hide (heap_below (heap_below X0.out BW.out) B3.out)
              obtain ⟨v0, v1, v2, v3, v4⟩ := sc_cells X3.out
              cases hz : chk o ps.length == 0
              · have hz' : (chk o ps.length != 0) = true := by simp [bne, hz]
                have HZ := hide hz
                clear hz
                go_wp2_with fail
                refine (rcheck_any o ca cc _ _ C3.out HM.out).mono ?_
                rintro r w4 ⟨rfl, b4⟩
                have B4 := hide (btr B3.out b4)
                clear b4
                go_wp2_with fail
                go_ret
                exact ⟨ret_int (schk_4c TM.out IS.out (ari_no HQ.out HX.out HZ.out)), btr B0.out (btr BW.out B4.out)⟩
              · have hz' : (chk o ps.length != 0) = false := by simp [bne, hz]
                have HZ : Hid (chk o ps.length = 0) := by show _ = _; simpa using hz
                clear hz
                go_wp2_with fail
                refine (rcheck_any o ca cc _ _ C3.out HM.out).mono ?_
                rintro r w4 ⟨rfl, b4⟩
                have B4 := hide (btr B3.out b4)
                clear b4
                go_wp2_with fail
                go_roundw
                case rel => exact ⟨j + 1, by omega, by go_num, fun t x ht hx => by
                  by_cases e : t = j
                  · subst e; rw [HX.out] at hx; cases hx; exact HZ.out
                  · exact HF.out t x (by omega) hx, B4.out⟩
                case measure => simp [intOf]; omega
            · have hjl' : ¬ ((j : Int) < (q.length : Int)) := by omega
              go_wp2_with fail
              go_roundw
              case rel =>
                exact ⟨k + 1, by omega, by go_num, fun t r ht hr i o ho => by
                  by_cases e : t = k
                  · subst e; rw [HQ.out] at hr; cases hr
                    exact HF.out i o (by have := (List.getElem?_eq_some_iff.1 ho).1; omega) ho
                  · exact HE.out t r (by omega) hr i o ho, btr BW.out B2.out⟩
              case measure => simp [intOf]; omega
        · have hlt' : ¬ ((k : Int) < (ps.length : Int)) := by omega
          have AR : Hid (ari ps.length ps = true) := ari_yes fun t q hq j o ho => HE.out t q (by have := (List.getElem?_eq_some_iff.1 hq).1; omega) hq j o ho
          have X5 := hide (heap_below X0.out BW.out)
          have L5 := hide (S0.out.below BW.out).pl
          have D5 := hide (S0.out.below BW.out).dr
          have B5 := hide (btr B0.out BW.out)
          clear HE S0 B0 X0 BW x0 x1 x2 x3 x4
          obtain ⟨x0, x1, x2, x3, x4⟩ := sc_cells X5.out
          go_wp2_with fail
          go_loop [86] (fun i => ∃ k : Nat, k ≤ pl.length ∧ i = .int .i64 k ∧ ∀ j, j < k → -1 ≤ nth pl j ∧ nth pl j ≤ 1000) (fun i => pl.length - (intOf i).toNat)
          case atStart => exact ⟨0, Nat.zero_le _, rfl, fun j hj => absurd hj (Nat.not_lt_zero _)⟩
          case round =>
            obtain ⟨k, hk, rfl, hall⟩ := hrel
            have HE := hide hall
            clear hall
            by_cases hlt : k < pl.length
            · have hlt' : (k : Int) < (pl.length : Int) := by omega
              obtain ⟨b1, o1, e, hc1⟩ := L5.out k hlt
              subst e
              by_cases u1 : nth pl k < -1
              · have u1' : decide (nth pl k < -1) = true := by simpa using u1
                go_wp2_with fail
                go_ret
                exact ⟨ret_int (schk_4b TM.out IS.out (Or.inl (ab_no hlt (Or.inl u1)))), B5.out⟩
              have u1' : decide (nth pl k < -1) = false := by simpa using u1
              by_cases u2 : 1000 < nth pl k
              · have u2' : decide (1000 < nth pl k) = true := by simpa using u2
                go_wp2_with fail
                go_ret
                exact ⟨ret_int (schk_4b TM.out IS.out (Or.inl (ab_no hlt (Or.inr u2)))), B5.out⟩
              have u2' : decide (1000 < nth pl k) = false := by simpa using u2
              go_wp2_with fail
              go_round
              case rel => exact ⟨k + 1, by omega, by go_num, fun j hj => by
                by_cases e : j = k
                · subst e; omega
                · exact HE.out j (by omega)⟩
              case measure => simp [intOf]; omega
            · have hlt' : ¬ ((k : Int) < (pl.length : Int)) := by omega
              have AP : Hid (ab (-1) 1000 pl = true) := ab_nth.2 fun j hj => HE.out j (by omega)
              clear HE
              go_wp2_with fail
              go_loop [100] (fun i => ∃ k : Nat, k ≤ dr.length ∧ i = .int .i64 k ∧ ∀ j, j < k → 0 ≤ nth dr j ∧ nth dr j ≤ 1000) (fun i => dr.length - (intOf i).toNat)
              case atStart => exact ⟨0, Nat.zero_le _, rfl, fun j hj => absurd hj (Nat.not_lt_zero _)⟩
              case round =>
                obtain ⟨k, hk, rfl, hall⟩ := hrel
                have HE := hide hall
                clear hall
                by_cases hlt : k < dr.length
                · have hlt' : (k : Int) < (dr.length : Int) := by omega
                  obtain ⟨b1, o1, e, hc1⟩ := D5.out k hlt
                  subst e
                  by_cases u1 : nth dr k < 0
                  · have u1' : decide (nth dr k < 0) = true := by simpa using u1
                    go_wp2_with fail
                    go_ret
                    exact ⟨ret_int (schk_4b TM.out IS.out (Or.inr (ab_no hlt (Or.inl u1)))), B5.out⟩
                  have u1' : decide (nth dr k < 0) = false := by simpa using u1
                  by_cases u2 : 1000 < nth dr k
                  · have u2' : decide (1000 < nth dr k) = true := by simpa using u2
                    go_wp2_with fail
                    go_ret
                    exact ⟨ret_int (schk_4b TM.out IS.out (Or.inr (ab_no hlt (Or.inr u2)))), B5.out⟩
                  have u2' : decide (1000 < nth dr k) = false := by simpa using u2
                  go_wp2_with fail
                  go_round
                  case rel => exact ⟨k + 1, by omega, by go_num, fun j hj => by
                    by_cases e : j = k
                    · subst e; omega
                    · exact HE.out j (by omega)⟩
                  case measure => simp [intOf]; omega
                · have hlt' : ¬ ((k : Int) < (dr.length : Int)) := by omega
                  have AD : Hid (ab 0 1000 dr = true) := ab_nth.2 fun j hj => HE.out j (by omega)
                  have F : Hid (schk ⟨T, M, ps, pl, dr⟩ = 0) := by
                    show _ = _
                    have e3 : decide (ps.length = 0) = false := by simpa using z
                    unfold schk
                    simp only [good_tm TM.out, IS.out, AR.out, AP.out, AD.out, e3]
                    rfl
                  go_wp2_with fail
                  go_ret
                  exact ⟨ret_int F.out, B5.out⟩
end Sh
end Go.Proofs.YtblfimobiibmjaaGreat
/- A new loom, over this seat's program. -/
namespace Go.Proofs.YtblfimobiibmjaaGreat
open Go.ChangeShapes Go.WideShapes Go.ChangeAt Go.RowKit
namespace Lo
open Ba

theorem field_ps (u : World) (a b d e : Value) (x : Option Addr) (y z : Nat) : (Instr.field 69 (.agg #[a, b, .slice x y z, d, e]) 2).run Tryz.prog u = .ok (.slice x y z) u := by
  simp [Instr.field, run_underlying Tryz.underlying69, asAgg, part, isAgg, run_underlying Tryz.underlying66]
theorem made8 : madeCells (Value.cells (.pointer none)) 8 = #[.pointer none, .pointer none, .pointer none, .pointer none, .pointer none, .pointer none, .pointer none, .pointer none] := by
  apply Array.toList_inj.1
  rw [madeCells, Array.toList_map, Array.toList_range]
  rfl
theorem pf_keep {w w' : World} {N : Nat} {arr : Array Value} {ps : List (List OpD)} (h : Sh.PF w N arr ps) (hk : ∀ x, N ≤ x → x < w.heap.size → w'.heap[x]? = w.heap[x]?) : Sh.PF w' N arr ps := by
  intro t q ht
  obtain ⟨g, c, h1, h2, h3, h4⟩ := h t q ht
  refine ⟨g, c, h1, fun j o hj => ?_, h3, h4⟩
  obtain ⟨ca, cc, ⟨k0, k1, k2, k3, k4⟩, hC, hN, hl⟩ := h2 j o hj
  have e := hk g h3 (World.block_lt_of_cell? w _ k0)
  refine ⟨ca, cc, ⟨?_, ?_, ?_, ?_, ?_⟩, cat_keep hC (fun a ea hla => hk _ (by have := hN a ea; omega) hla), hN, hl⟩
  · rw [← k0]; simp only [World.cell?, e]
  · rw [← k1]; simp only [World.cell?, e]
  · rw [← k2]; simp only [World.cell?, e]
  · rw [← k3]; simp only [World.cell?, e]
  · rw [← k4]; simp only [World.cell?, e]
/-- the cells of a loom that has no cursor yet -/
def lz (G n B X : Nat) : Array Value := #[.slice (some ⟨G, 0, none⟩) n n, .pointer none, .pointer (some ⟨B, 0, none⟩), .slice (some ⟨X, 0, none⟩) 8 8, .int .i64 0, .int .i64 0, .int .i64 0, .int .i64 0, .int .i64 0, .int .i64 0, .int .i64 0, .int .i64 0, .int .i64 0, .slice none 0 0, .bool false]
theorem nf_static {u0 uC wF : World} {G : Nat} {arr : Array Value} {ps : List (List OpD)} {t : TypeId} (hG : uC.heap[G]? = some (.cells arr t (0, 0))) (hPF : Sh.PF uC (u0.heap.size + 1) arr ps) (hGlt : u0.heap.size < G) (bF : Below uC.heap.size uC wF) :
    ∀ w', (∀ x, u0.heap.size ≤ x → x < uC.heap.size → w'.heap[x]? = wF.heap[x]?) → Sh.PAt w' (some ⟨G, 0, none⟩) ps := by
  intro w' h
  have e : ∀ x, u0.heap.size ≤ x → x < uC.heap.size → w'.heap[x]? = uC.heap[x]? := fun x h1 h2 => (h x h1 h2).trans (bF.block x h2)
  exact Sh.PF.at (pf_keep hPF (fun x h1 h2 => e x (by omega) h2)) ((e G (by omega) (heap_lt hG)).trans hG)
section
variable {w w1 uC uK : World} {G : Nat} {arr : Array Value} {ps : List (List OpD)}
end
def nmI (i : Nat) : List Int := List.replicate i (-1) ++ List.replicate (8 - i) 0
theorem nmI_len {i : Nat} (h : i ≤ 8) : (nmI i).length = 8 := by simp [nmI]; omega
theorem nmI_step {i : Nat} (h : i < 8) : (nmI i).set i (-1) = nmI (i + 1) := by
  rcases (show i = 0 ∨ i = 1 ∨ i = 2 ∨ i = 3 ∨ i = 4 ∨ i = 5 ∨ i = 6 ∨ i = 7 by omega) with rfl | rfl | rfl | rfl | rfl | rfl | rfl | rfl <;> rfl
theorem lcs_at (pa : Option Addr) (n pc C B X : Nat) (nm : List Int) (md : Int) (ta : Option Addr) (tn tc : Nat) (pk : Bool) {k : Nat} (hk : k < 8) : (lcs pa n pc C B X nm md ta tn tc pk)[4 + k]? = some (.int .i64 (nth nm k)) := by
  rcases (show k = 0 ∨ k = 1 ∨ k = 2 ∨ k = 3 ∨ k = 4 ∨ k = 5 ∨ k = 6 ∨ k = 7 by omega) with rfl | rfl | rfl | rfl | rfl | rfl | rfl | rfl <;> rfl
end Lo
end Go.Proofs.YtblfimobiibmjaaGreat
/- A loom's Trace, Len, State and Run, over this seat's program. -/
namespace Go.Proofs.YtblfimobiibmjaaGreat
open Go.ChangeShapes Go.WideShapes Go.ChangeAt Go.RowKit
namespace Lo
open Ba

/-- all steps of a run -/
def runF (sc : Sh.Sc) : Lm := stepsF sc.pl.length (newS sc)
theorem steps_succ : ∀ (n : Nat) (s : Lm), stepsF (n + 1) s = stepF (stepsF n s)
  | 0, _ => rfl
  | n + 1, s => steps_succ n (stepF s)
theorem step_end {s : Lm} (h : verd s ≠ 0) : stepF s = s := by
  unfold stepF
  rw [if_pos h]
theorem steps_end {s : Lm} (h : verd s ≠ 0) : ∀ n, stepsF n s = s
  | 0 => rfl
  | n + 1 => by rw [steps_succ, steps_end h n, step_end h]
theorem steps_add (m : Nat) : ∀ (n : Nat) (s : Lm), stepsF (n + m) s = stepsF m (stepsF n s)
  | 0, s => by rw [Nat.zero_add]; rfl
  | n + 1, s => by rw [Nat.add_right_comm]; exact steps_add m n (stepF s)
/-- as long as the run is not over each step takes an entry of the plan -/
theorem Inv.end_ {sc : Sh.Sc} {n : Nat} {s : Lm} (i : Inv sc n s) (h : verd s = 0) : n < sc.pl.length := by
  have hpl : s.p.length ≠ 0 := fun z => by
    unfold verd at h
    rw [if_pos z] at h
    split at h
    · omega
    · split at h <;> omega
  rw [i.p, List.length_drop] at hpl
  omega
theorem Inv.steps {sc : Sh.Sc} (hs : Sh.schk sc = 0) : ∀ n, ∃ k, k ≤ n ∧ Inv sc k (stepsF n (newS sc)) ∧ (verd (stepsF n (newS sc)) = 0 → k = n)
  | 0 => ⟨0, Nat.le_refl _, Inv.new hs, fun _ => rfl⟩
  | n + 1 => by
    obtain ⟨k, hk, i, he⟩ := Inv.steps hs n
    rw [steps_succ]
    by_cases hv : verd (stepsF n (newS sc)) = 0
    · obtain rfl := he hv
      exact ⟨k + 1, Nat.le_refl _, i.step hs hv, fun _ => rfl⟩
    · rw [step_end hv]
      exact ⟨k, by omega, i, fun h => absurd h hv⟩
theorem run_over {sc : Sh.Sc} (hs : Sh.schk sc = 0) : verd (runF sc) ≠ 0 := by
  intro h
  obtain ⟨k, -, i, he⟩ := Inv.steps hs sc.pl.length
  have := he h
  have := i.end_ h
  omega
theorem run_at {sc : Sh.Sc} {n : Nat} (hn : n ≤ sc.pl.length) (h : verd (stepsF n (newS sc)) ≠ 0) : runF sc = stepsF n (newS sc) := by
  unfold runF
  obtain ⟨m, e⟩ : ∃ m, sc.pl.length = n + m := ⟨sc.pl.length - n, by omega⟩
  rw [e, steps_add, steps_end h]
end Lo
end Go.Proofs.YtblfimobiibmjaaGreat
/- The reference's loom: New, Run, over this seat's program. -/
namespace Go.Proofs.YtblfimobiibmjaaGreat
open Go.ChangeShapes Go.WideShapes Go.ChangeAt Go.RowKit
namespace Rlo
open Ba Lo

set_option maxRecDepth 100000 in
set_option maxHeartbeats 1600000 in
theorem rlnew_err (T M : Int) (ps : List (List OpD)) (pl dr : List Int) (pa la da : Option Addr) (pc lc dc : Nat) (w : World) (hS : Sh.SAt w ⟨T, M, ps, pl, dr⟩ pa la da) (x : Int) (hx : Sh.schk ⟨T, M, ps, pl, dr⟩ = x) (h0 : x ≠ 0) :
    Calls Tryz.prog 59 #[.agg #[.int .i64 T, .int .i64 M, .slice pa ps.length pc, .slice la pl.length lc, .slice da dr.length dc]] w fun r w' => r = .returned (.tuple #[.pointer none, .int .i64 x]) ∧ Below w.heap.size w w' := by
  have CK := hide (Sh.rscheck_any T M ps pl dr pa la da pc lc dc (w.alloc (.cells #[.int .i64 T, .int .i64 M, .slice pa ps.length pc, .slice la pl.length lc, .slice da dr.length dc] 69)) (hS.below (below_alloc _ _)))
  rw [hx] at CK
  have h0' : (x != 0) = true := by simp [h0]
  clear hS
  go_enter Tryz.func59, Tryz.ntmps59
  go_wp2_with fail
  refine CK.out.mono ?_
  rintro r w1 ⟨rfl, b1⟩
  have B1 := hide (btr (below_alloc w (.cells #[.int .i64 T, .int .i64 M, .slice pa ps.length pc, .slice la pl.length lc, .slice da dr.length dc] 69)) b1)
  clear b1
  go_wp2_with fail
  go_ret2
  exact ⟨rfl, B1.out⟩
theorem rcs_at (q : Hd) (pa : Option Addr) (n pc C B : Nat) (oa : Option Addr) (cn oc : Nat) (nm : List Int) (ta : Option Addr) (tn tc : Nat) (pk : Bool) {k : Nat} (hk : k < 8) : (rcs q pa n pc C B oa cn oc nm ta tn tc pk)[8 + k]? = some (.int .i64 (nth nm k)) := by
  rcases (show k = 0 ∨ k = 1 ∨ k = 2 ∨ k = 3 ∨ k = 4 ∨ k = 5 ∨ k = 6 ∨ k = 7 by omega) with rfl | rfl | rfl | rfl | rfl | rfl | rfl | rfl <;> rfl
theorem at_lt {w : World} {oa : Option Addr} {l : List Int} (h : At w oa l) (h0 : 0 < l.length) : ∀ a, oa = some a → a.block < w.heap.size := by
  intro a e
  obtain ⟨b, off, e2, hc⟩ := h 0 h0
  rw [e] at e2
  cases e2
  exact World.block_lt_of_cell? w _ hc
theorem ni0 : NI (List.replicate 8 (-1)) 0 := by
  refine ⟨rfl, ?_, ?_, ?_⟩
  · intro i hi
    rcases (show i = 0 ∨ i = 1 ∨ i = 2 ∨ i = 3 ∨ i = 4 ∨ i = 5 ∨ i = 6 ∨ i = 7 by omega) with rfl | rfl | rfl | rfl | rfl | rfl | rfl | rfl <;> decide
  · intro i hi
    rcases (show i = 0 ∨ i = 1 ∨ i = 2 ∨ i = 3 ∨ i = 4 ∨ i = 5 ∨ i = 6 ∨ i = 7 by omega) with rfl | rfl | rfl | rfl | rfl | rfl | rfl | rfl <;> decide
  · intro i j hi hj h0 _
    exfalso
    rcases (show i = 0 ∨ i = 1 ∨ i = 2 ∨ i = 3 ∨ i = 4 ∨ i = 5 ∨ i = 6 ∨ i = 7 by omega) with rfl | rfl | rfl | rfl | rfl | rfl | rfl | rfl <;> revert h0 <;> decide
theorem rl_rx {w0 wr : World} {T M : Int} {ps : List (List OpD)} {pl dr : List Int} {pa la da : Option Addr} {pc lc dc N C B L : Nat}
    (hL : wr.heap[L]? = some (.cells (rcs ⟨T, M, la, pl.length, lc, da, dr.length, dc⟩ pa ps.length pc C B none 0 0 (nmI 8) none 0 0 false) 114 (0, 0))) (hB : wr.heap[B]? = some (.cells #[.slice none 0 0] 158 (0, 0))) (cu : Pk.RCur wr C N pl dr) (o1 : N ≤ C) (o2 : C < B) (o3 : B < L)
    (b0 : Below w0.heap.size w0 wr) (hN : w0.heap.size ≤ N) (hp : Sh.PAt w0 pa ps) :
    ∃ col, RX wr col L N C B (fun k => k = B) ⟨T, M, la, pl.length, lc, da, dr.length, dc⟩ pa pc none 0 [] (fun _ _ => False) [] none 0 ⟨ps, pl, dr, [], List.replicate 8 none, List.replicate 8 (-1), 0, [], false⟩ ∧ ∀ x, N ≤ x → x < C → col x = 7 := by
  refine ⟨fun x => if x = L then 0 else if x = C then 1 else if x = B then 2 else if x < N then 6 else 7, ⟨hL, ⟨w0, hN, b0, hp⟩, cu, o1, ⟨none, 0, hB, World.ownsRow_nil _ _ _ _, rfl, fun g e => by simp [Value.ownBlock] at e, fun k (e : k = B) => by rw [e]; exact heap_lt hB, by simp⟩, World.ownsRow_nil _ _ _ _, ?_, ?_, rfl, ?_, World.ownsRow_nil _ _ _ _, ?_, ?_, ?_, ?_, ?_, ?_, ?_⟩, ?_⟩
  · exact ⟨fun i o hi => by simp at hi, rfl, fun i B1 hi => by simp at hi, fun i hi => by simp at hi, fun _ _ _ _ hf => hf.elim, fun _ _ _ hf => hf, fun _ _ hf => hf.elim⟩
  · exact ni0
  · rfl
  · simp
  · show (if C = L then 0 else if C = C then 1 else if C = B then 2 else if C < N then 6 else 7) = 1
    rw [if_neg (by omega), if_pos rfl]
  · intro x (e : x = B)
    show (if x = L then 0 else if x = C then 1 else if x = B then 2 else if x < N then 6 else 7) = 2
    rw [if_neg (by omega), if_neg (by omega), if_pos e]
  · intro g e
    simp [Value.ownBlock] at e
  · intro _ _ hf
    exact hf.elim
  · intro g e
    simp [Value.ownBlock] at e
  · intro x hx
    show (if x = L then 0 else if x = C then 1 else if x = B then 2 else if x < N then 6 else 7) = 6
    rw [if_neg (by omega), if_neg (by omega), if_neg (by omega), if_pos hx]
  · intro x h1 h2
    show (if x = L then 0 else if x = C then 1 else if x = B then 2 else if x < N then 6 else 7) = 7
    rw [if_neg (by omega), if_neg (by omega), if_neg (by omega), if_neg (by omega)]
set_option maxRecDepth 100000 in
set_option maxHeartbeats 1600000 in
theorem rlnew_yes (T M : Int) (ps : List (List OpD)) (pl dr : List Int) (pa la da : Option Addr) (pc lc dc N : Nat) (w0 w : World) (hS0 : Sh.SAt w0 ⟨T, M, ps, pl, dr⟩ pa la da) (b0 : Below w0.heap.size w0 w) (hN : w0.heap.size ≤ N) (hN2 : N ≤ w.heap.size) (hx : Sh.schk ⟨T, M, ps, pl, dr⟩ = 0) :
    Calls Tryz.prog 59 #[.agg #[.int .i64 T, .int .i64 M, .slice pa ps.length pc, .slice la pl.length lc, .slice da dr.length dc]] w fun r w' => ∃ L col, r = .returned (.tuple #[.pointer (some ⟨L, 0, none⟩), .int .i64 0]) ∧ RW w' col L N (newS ⟨T, M, ps, pl, dr⟩) ∧ (∀ x, N ≤ x → x < w.heap.size → col x = 7) ∧ w.heap.size ≤ L ∧ Below w.heap.size w w' := by
  obtain ⟨q1, q2, q3, q4, q5, q6, q7⟩ := schk_ok hx
  simp only at q1 q2 q3 q4 q5 q6 q7
  have hS := hS0.below b0
  have CK := hide (Sh.rscheck_any T M ps pl dr pa la da pc lc dc (w.alloc (.cells #[.int .i64 T, .int .i64 M, .slice pa ps.length pc, .slice la pl.length lc, .slice da dr.length dc] 69)) (hS.below (below_alloc _ _)))
  rw [hx] at CK
  have NE : Pk.ne pl dr = 0 := Pk.ne_0 (by omega) (by omega) ((Pk.ab_iff _ _ _).2 q6) ((Pk.ab_iff _ _ _).2 q7)
  have PN := hide (fun u (hb : Below w.heap.size w u) => Pk.rnew_any la da pl dr lc dc N u (fun h0 a e => Nat.lt_of_lt_of_le (at_lt hS0.pl h0 a e) hN) (fun h0 a e => Nat.lt_of_lt_of_le (at_lt hS0.dr h0 a e) hN) (hS.pl.below hb) (hS.dr.below hb) hS0.h2 hS0.h3)
  have HS0 := hide hS0
  have B0 := hide b0
  have HNE := hide NE
  clear hS hS0 b0 NE
  go_enter Tryz.func59, Tryz.ntmps59
  go_wp2_with fail
  refine CK.out.mono ?_
  rintro r w1 ⟨rfl, b1⟩
  have E1 := hide (heap_below (heap_new w (.cells #[.int .i64 T, .int .i64 M, .slice pa ps.length pc, .slice la pl.length lc, .slice da dr.length dc] 69)) b1)
  have B1 := hide (btr (below_alloc w (.cells #[.int .i64 T, .int .i64 M, .slice pa ps.length pc, .slice la pl.length lc, .slice da dr.length dc] 69)) b1)
  have c3 : w1.cell? ⟨w.heap.size, 3, none⟩ = some (.slice la pl.length lc) := cell_of E1.out 3
  have c4 : w1.cell? ⟨w.heap.size, 4, none⟩ = some (.slice da dr.length dc) := cell_of E1.out 4
  have PN1 := hide (PN.out w1 B1.out)
  clear b1 CK PN
  go_wp2_with fail
  refine PN1.out.mono ?_
  rintro r w2 (⟨e, -, -⟩ | ⟨-, rfl, cu2, b2⟩)
  · exact absurd HNE.out e
  have E2 := hide (heap_below E1.out b2)
  have B2 := hide (btr B1.out b2)
  have CU2 := hide cu2
  have d0 : w2.cell? ⟨w.heap.size, 0, none⟩ = some (.int .i64 T) := cell_of E2.out 0
  have d1 : w2.cell? ⟨w.heap.size, 1, none⟩ = some (.int .i64 M) := cell_of E2.out 1
  have d2 : w2.cell? ⟨w.heap.size, 2, none⟩ = some (.slice pa ps.length pc) := cell_of E2.out 2
  have d3 : w2.cell? ⟨w.heap.size, 3, none⟩ = some (.slice la pl.length lc) := cell_of E2.out 3
  have d4 : w2.cell? ⟨w.heap.size, 4, none⟩ = some (.slice da dr.length dc) := cell_of E2.out 4
  have s1 := B1.out.size
  have s2 : w1.heap.size < w2.heap.size := rcur_lt cu2
  clear b2 cu2 PN1 c3 c4
  have VL := hide (En.heap_new2 w2 (.cells #[.slice none 0 0] 158) (.cells #[.int .i64 T, .int .i64 M, .slice pa ps.length pc, .slice la pl.length lc, .slice da dr.length dc, .pointer (some ⟨w1.heap.size, 0, none⟩), .pointer (some ⟨w2.heap.size, 0, none⟩), .slice none 0 0, .int .i64 0, .int .i64 0, .int .i64 0, .int .i64 0, .int .i64 0, .int .i64 0, .int .i64 0, .int .i64 0, .slice none 0 0, .bool false] 114))
  have VB := hide (heap_below (heap_new w2 (.cells #[.slice none 0 0] 158)) (below_alloc _ (.cells #[.int .i64 T, .int .i64 M, .slice pa ps.length pc, .slice la pl.length lc, .slice da dr.length dc, .pointer (some ⟨w1.heap.size, 0, none⟩), .pointer (some ⟨w2.heap.size, 0, none⟩), .slice none 0 0, .int .i64 0, .int .i64 0, .int .i64 0, .int .i64 0, .int .i64 0, .int .i64 0, .int .i64 0, .int .i64 0, .slice none 0 0, .bool false] 114)))
  have BF := hide (btr (below_alloc w2 (.cells #[.slice none 0 0] 158)) (below_alloc _ (.cells #[.int .i64 T, .int .i64 M, .slice pa ps.length pc, .slice la pl.length lc, .slice da dr.length dc, .pointer (some ⟨w1.heap.size, 0, none⟩), .pointer (some ⟨w2.heap.size, 0, none⟩), .slice none 0 0, .int .i64 0, .int .i64 0, .int .i64 0, .int .i64 0, .int .i64 0, .int .i64 0, .int .i64 0, .int .i64 0, .slice none 0 0, .bool false] 114)))
  go_wp2_with fail
  have o3 : w2.heap.size < w2.heap.size + 1 := by omega
  have o4 := heap_lt VL.out
  clear d0 d1 d2 d3 d4
  generalize (w2.alloc (.cells #[.slice none 0 0] 158)).alloc (.cells #[.int .i64 T, .int .i64 M, .slice pa ps.length pc, .slice la pl.length lc, .slice da dr.length dc, .pointer (some ⟨w1.heap.size, 0, none⟩), .pointer (some ⟨w2.heap.size, 0, none⟩), .slice none 0 0, .int .i64 0, .int .i64 0, .int .i64 0, .int .i64 0, .int .i64 0, .int .i64 0, .int .i64 0, .int .i64 0, .slice none 0 0, .bool false] 114) = w3 at *
  generalize w2.heap.size + 1 = L at *
  have hwL : w.heap.size ≤ L := by omega
  go_loopw [8] (fun iv wr => ∃ i : Nat, i ≤ 8 ∧ iv = .int .i64 i ∧ wr.heap[L]? = some (.cells (rcs ⟨T, M, la, pl.length, lc, da, dr.length, dc⟩ pa ps.length pc w1.heap.size w2.heap.size none 0 0 (nmI i) none 0 0 false) 114 (0, 0)) ∧ KB L w3 wr) (fun iv _ => 8 - (intOf iv).toNat)
  case atStart => exact ⟨0, by omega, rfl, VL.out.trans rfl, KB.refl _ _⟩
  case round =>
    obtain ⟨i, hi, rfl, hlr, hkr⟩ := hrel
    have HLR := hide hlr
    have HKR := hide hkr
    clear hlr hkr
    by_cases hlt : i < 8
    · have hlt' : (i : Int) < 8 := by omega
      have hi0 : (0 : Int) ≤ (i : Int) := by omega
      have x0 : wr.cell? ⟨L, 8 + i, none⟩ = some (.int .i64 (nth (nmI i) i)) := (cell_of HLR.out (8 + i)).trans (rcs_at _ _ _ _ _ _ _ _ _ _ _ _ _ _ hlt)
      have xf : wr.frozen? ⟨L, 8 + i, none⟩ = false := frozen_of HLR.out (8 + i)
      have NX : Hid ((wr.setCell ⟨L, 8 + i, none⟩ (.int .i64 (-1))).heap[L]? = some (.cells (rcs ⟨T, M, la, pl.length, lc, da, dr.length, dc⟩ pa ps.length pc w1.heap.size w2.heap.size none 0 0 (nmI (i + 1)) none 0 0 false) 114 (0, 0))) := by
        show _ = _
        rw [Ba.heap_setCell_same HLR.out, rcs_num _ _ _ _ _ _ _ _ _ _ _ _ _ _ _ _ (nmI_len hi) hlt, nmI_step hlt]
      have KX := hide (HKR.out.setCell (8 + i) (.int .i64 (-1)))
      generalize nth (nmI i) i = z at x0
      go_wp2_with fail
      go_roundw
      case rel => exact ⟨i + 1, by omega, by go_num, NX.out, KX.out⟩
      case measure => simp [intOf]; omega
    · have hlt' : decide ((i : Int) < 8) = false := decide_eq_false (by omega)
      have HL8 : Hid (wr.heap[L]? = some (.cells (rcs ⟨T, M, la, pl.length, lc, da, dr.length, dc⟩ pa ps.length pc w1.heap.size w2.heap.size none 0 0 (nmI 8) none 0 0 false) 114 (0, 0))) := by
        have := HLR.out
        have e : i = 8 := by omega
        rw [e] at this
        exact this
      have BW : Hid (Below w.heap.size w wr) := below_kb (btr B2.out BF.out) HKR.out hwL (btr B2.out BF.out).size
      have hB := HKR.out.heap VB.out (by omega)
      have hcu := (CU2.out.below BF.out).kb HKR.out (by omega) (by omega)
      have b00 : Below w0.heap.size w0 wr := ⟨BW.out.os.trans B0.out.os, BW.out.tape.trans B0.out.tape, BW.out.output.trans B0.out.output, Nat.le_trans B0.out.size BW.out.size, fun x hx => (BW.out.block x (Nat.lt_of_lt_of_le hx B0.out.size)).trans (B0.out.block x hx)⟩
      obtain ⟨col, hrx, h7⟩ := rl_rx HL8.out hB hcu (by omega) s2 o3 b00 hN HS0.out.ps
      have HRX := hide hrx
      have H7 := hide h7
      have SP := hide (Cr.rspawn_any w2.heap.size _ [] 0 wr hrx.cr)
      have y6 := cell_of hrx.hp 6
      simp [rcs] at y6
      clear hrx h7 hB hcu b00 HLR HKR HL8 VL VB
      go_wp2_with fail
      refine SP.out.mono ?_
      rintro r w5 ⟨rfl, p5⟩
      obtain ⟨FB5, col5, h5, t5⟩ := HRX.out.crew p5
      have H5 := hide h5
      have T5 := hide t5
      clear h5 t5 p5 SP y6
      go_wp2_with fail
      go_ret2
      have c7 : ∀ x, x < w.heap.size → 6 ≤ col x := fun x hx => by
        rcases Nat.lt_or_ge x N with q | q
        · rw [HRX.out.c6 x q]
          omega
        · rw [H7.out x q (by omega)]
          omega
      refine ⟨L, col5, rfl, H5.out.lw, fun x h1 h2 => ?_, hwL, ⟨T5.out.os.trans BW.out.os, T5.out.tape.trans BW.out.tape, T5.out.output.trans BW.out.output, Nat.le_trans BW.out.size T5.out.size, fun x hx => (T5.out.block x (Nat.lt_of_lt_of_le hx BW.out.size) (c7 x hx)).trans (BW.out.block x hx)⟩⟩
      exact (T5.out.old x (Nat.lt_of_lt_of_le h2 BW.out.size) (c7 x h2)).trans (H7.out x h1 (by omega))
/-! ### Run -/
theorem WB.steps {sc : Sh.Sc} (hs : Sh.schk sc = 0) : ∀ n, WB (stepsF n (newS sc))
  | 0 => WB.new sc
  | n + 1 => by
    obtain ⟨k, -, i, -⟩ := Inv.steps hs n
    rw [steps_succ]
    exact (WB.steps hs n).step hs i
/-- a step, whether the run is over or not -/
theorem rstep_all (L N : Nat) (col : Nat → Nat) (sc : Sh.Sc) (n : Nat) (w : World) (h : RW w col L N (stepsF n (newS sc))) (hs : Sh.schk sc = 0) :
    Calls Tryz.prog 60 #[.pointer (some ⟨L, 0, none⟩)] w fun r w' => (∃ b, r = .returned (.bool b)) ∧ ∃ col', RW w' col' L N (stepsF (n + 1) (newS sc)) ∧ Tq col col' w w' := by
  obtain ⟨k, -, i, -⟩ := Inv.steps hs n
  rw [steps_succ]
  by_cases hv : verd (stepsF n (newS sc)) = 0
  · refine (rstep_any L N col sc k _ w h hs i (WB.steps hs n) hv).mono ?_
    rintro r w1 ⟨rfl, x⟩
    exact ⟨⟨_, rfl⟩, x⟩
  · rw [Lo.step_end hv]
    refine (rstep_over L N col _ w h hv).mono ?_
    rintro r w1 ⟨rfl, b1⟩
    obtain ⟨c1, h1, t1, -⟩ := h.below b1
    exact ⟨⟨_, rfl⟩, c1, h1, t1⟩
theorem size_ran : (Tryz.prog.info? 60).map (·.size) = some 2 := by kernel_rfl
theorem loadVar_ran {w : World} {b : Nat} {c : Array Value} {t : TypeId} (h : w.heap[b]? = some (.cells c t (0, 0))) (hc : c.size = 2) : (loadVar 60 ⟨b, 0, none⟩).run Tryz.prog w = .ok (.agg c) w :=
  run_loadVar_row w b t _ _ _ _ h Tryz.underlying60 rfl (by rw [size_ran, hc])
set_option maxRecDepth 100000 in
set_option maxHeartbeats 1600000 in
theorem rlrun_no (T M : Int) (ps : List (List OpD)) (pl dr : List Int) (pa la da : Option Addr) (pc lc dc : Nat) (w : World) (hS : Sh.SAt w ⟨T, M, ps, pl, dr⟩ pa la da) (hx : Sh.schk ⟨T, M, ps, pl, dr⟩ ≠ 0) :
    Calls Tryz.prog 32 #[.agg #[.int .i64 T, .int .i64 M, .slice pa ps.length pc, .slice la pl.length lc, .slice da dr.length dc]] w fun r w' => r = .returned (.agg #[.slice none 0 0, .int .i64 0]) ∧ Below w.heap.size w w' := by
  have BB := btr (below_alloc w (.cells #[.int .i64 T, .int .i64 M, .slice pa ps.length pc, .slice la pl.length lc, .slice da dr.length dc] 69)) (below_alloc _ (.cells #[.slice none 0 0, .int .i64 0] 60))
  have NE := hide (rlnew_err T M ps pl dr pa la da pc lc dc _ (hS.below BB) _ rfl hx)
  have B0 := hide BB
  have R0 := hide (En.heap_new2 w (.cells #[.int .i64 T, .int .i64 M, .slice pa ps.length pc, .slice la pl.length lc, .slice da dr.length dc] 69) (.cells #[.slice none 0 0, .int .i64 0] 60))
  generalize Sh.schk ⟨T, M, ps, pl, dr⟩ = x at NE hx
  have hx' : (x != 0) = true := by simp [hx]
  clear hS BB
  go_enter Tryz.func32, Tryz.ntmps32
  go_wp2_with fail
  refine NE.out.mono ?_
  rintro r w1 ⟨rfl, b1⟩
  have B1 := hide (btr B0.out b1)
  have R1 := hide (heap_below R0.out b1)
  have r0 := cell_of R1.out 0
  have r1 := cell_of R1.out 1
  have f0 := frozen_of R1.out 0
  have f1 := frozen_of R1.out 1
  simp at r0 r1
  clear b1
  go_wp2_with fail
  have K2 := ((KB.refl (w.heap.size + 1) w1).setCell 0 (.slice none 0 0)).setCell 1 (.int .i64 0)
  exact bodyPost_ret (En.results_row1 Tryz.results32 _ _ _ _ rfl (loadVar_ran ((Ba.heap_setCell_same (Ba.heap_setCell_same R1.out (i := 0) (.slice none 0 0)) (i := 1) (.int .i64 0)).trans rfl) rfl)) rfl ⟨rfl, below_kb B1.out K2 (by omega) B1.out.size⟩
set_option maxRecDepth 100000 in
set_option maxHeartbeats 1600000 in
theorem rlrun_yes (T M : Int) (ps : List (List OpD)) (pl dr : List Int) (pa la da : Option Addr) (pc lc dc : Nat) (w : World) (hS : Sh.SAt w ⟨T, M, ps, pl, dr⟩ pa la da) (hx : Sh.schk ⟨T, M, ps, pl, dr⟩ = 0) (R : Lm) (hR : runF ⟨T, M, ps, pl, dr⟩ = R) :
    Calls Tryz.prog 32 #[.agg #[.int .i64 T, .int .i64 M, .slice pa ps.length pc, .slice la pl.length lc, .slice da dr.length dc]] w fun r w' => ∃ ob d, r = .returned (.agg #[.slice ob R.tr.length d, .int .i64 (verd R)]) ∧ EsAt w' ob R.tr ∧ (R.tr.length ≤ d ∧ ∀ a, ob = some a → w.heap.size ≤ a.block) ∧ Below w.heap.size w w' := by
  have BB := btr (below_alloc w (.cells #[.int .i64 T, .int .i64 M, .slice pa ps.length pc, .slice la pl.length lc, .slice da dr.length dc] 69)) (below_alloc _ (.cells #[.slice none 0 0, .int .i64 0] 60))
  have NE := hide (rlnew_yes T M ps pl dr pa la da pc lc dc w.heap.size w _ hS BB (Nat.le_refl _) BB.size hx)
  have B0 := hide BB
  have R0 := hide (En.heap_new2 w (.cells #[.int .i64 T, .int .i64 M, .slice pa ps.length pc, .slice la pl.length lc, .slice da dr.length dc] 69) (.cells #[.slice none 0 0, .int .i64 0] 60))
  have S0 := hide (heap_below (heap_new w (.cells #[.int .i64 T, .int .i64 M, .slice pa ps.length pc, .slice la pl.length lc, .slice da dr.length dc] 69)) (below_alloc _ (.cells #[.slice none 0 0, .int .i64 0] 60)))
  have HR := hide hR
  have hpl2 : pl.length ≤ 200 := (schk_ok hx).2.2.1
  have RO := hide (run_over hx)
  generalize hsc : (⟨T, M, ps, pl, dr⟩ : Sh.Sc) = sc at *
  have HPL : Hid (sc.pl.length = pl.length) := by show _ = _; rw [← hsc]
  clear hS hR BB hsc
  go_enter Tryz.func32, Tryz.ntmps32
  go_wp2_with fail
  refine NE.out.mono ?_
  rintro r w1 ⟨L, col, rfl, h1, h7, hLw, b1⟩
  have H1 := hide h1
  have B1 := hide (btr B0.out b1)
  have R1 := hide (heap_below R0.out b1)
  have S1 := hide (heap_below S0.out b1)
  have hs0 := heap_lt R0.out
  have C0 : Hid (col w.heap.size = 7) := h7 _ (Nat.le_refl _) (by omega)
  have C1 : Hid (col (w.heap.size + 1) = 7) := h7 _ (by omega) hs0
  have C6 : Hid (∀ x, x < w.heap.size → 6 ≤ col x) := fun x hx => by
    obtain ⟨C, B, FB, q, pa, pc, oa, oc, bs, Fs, cs, ta, tc, h⟩ := h1
    rw [h.c6 x hx]
    omega
  have hLne : L ≠ w.heap.size + 1 := by omega
  clear h1 h7 b1 NE hs0 hLw
  go_wp2_with fail
  go_loopw [5] (fun iv wr => ∃ (n : Nat) (cj : Nat → Nat), n ≤ pl.length + 1 ∧ iv = .int .i64 n ∧ RW wr cj L w.heap.size (stepsF n (newS sc)) ∧ Tq col cj w1 wr) (fun iv _ => pl.length + 1 - (intOf iv).toNat)
  case atStart => exact ⟨0, col, Nat.zero_le _, rfl, H1.out, Tq.refl _ _⟩
  case round =>
    obtain ⟨n, cj, hn, rfl, hlw, htr⟩ := hrel
    have HL := hide hlw
    have HT := hide htr
    have S2 := hide (htr.heap S1.out C0.out)
    have R2 := hide (htr.heap R1.out C1.out)
    have CJ : Hid (cj (w.heap.size + 1) = 7) := (htr.old _ (heap_lt R1.out) (by rw [C1.out]; omega)).trans C1.out
    have p3 : wr.cell? ⟨w.heap.size, 3, none⟩ = some (.slice la pl.length lc) := cell_of S2.out 3
    clear hlw htr H1
    by_cases hlt : n ≤ pl.length
    · have hlt' : (n : Int) ≤ (pl.length : Int) := by omega
      have ST := hide (rstep_all L w.heap.size cj sc n wr HL.out hx)
      go_wp2_with fail
      refine ST.out.mono ?_
      rintro r w3 ⟨⟨b, rfl⟩, c3, h3, t3⟩
      have H3 := hide h3
      have T3 := hide (HT.out.trans t3)
      clear h3 t3 ST
      go_wp2_with fail
      go_roundw
      case rel => exact ⟨n + 1, c3, by omega, by go_num, H3.out, T3.out⟩
      case measure => simp [intOf]; omega
    · have hlt' : ¬ ((n : Int) ≤ (pl.length : Int)) := by omega
      have hRs : stepsF n (newS sc) = R := by
        have e : n = sc.pl.length + 1 := by rw [HPL.out]; omega
        rw [e, steps_succ]
        show stepF (runF sc) = R
        rw [Lo.step_end RO.out, HR.out]
      rw [hRs] at HL
      have VE := hide (fun u c (q : RW u c L w.heap.size R) => rverdict_any L w.heap.size c R u q)
      obtain ⟨C, B, FB, q, pa2, pc2, oa, oc, bs, Fs, cs, ta, tc, h2⟩ := HL.out
      have H2 := hide h2
      have BW : Hid (Below w.heap.size w wr) := ⟨HT.out.os.trans B1.out.os, HT.out.tape.trans B1.out.tape, HT.out.output.trans B1.out.output, Nat.le_trans B1.out.size HT.out.size, fun x hx => (HT.out.block x (Nat.lt_of_lt_of_le hx B1.out.size) (C6.out x hx)).trans (B1.out.block x hx)⟩
      have VE2 := hide (VE.out wr.drew cj h2.drew.lw)
      have y16 : wr.cell? ⟨L, 16, none⟩ = some (.slice ta R.tr.length tc) := cell_of h2.hp 16
      have L2 := hide h2.hp
      have OT := hide h2.tr
      generalize hV : verd R = V at VE2
      clear h2 VE HT hRs
      go_wp2_with fail
      go_region_held3 (fun w' => w'.cell? ⟨L, 16, none⟩ = some (.slice ta R.tr.length tc))
        (first | (go_keep; done) | (exact y16b) | (exact kset1 (kset1 y16b hLne) hLne))
        (first | (go_at_call 61; refine VE2.out.mono ?_; rintro r w6 ⟨rfl, b6⟩; have y16b : w6.cell? ⟨L, 16, none⟩ = some (.slice ta R.tr.length tc) := cell_of (heap_below L2.out (btr (bdrew1 wr) b6)) 16; have R6 := hide (heap_below R2.out (btr (bdrew1 wr) b6)); have r0 := cell_of R6.out 0; have r1 := cell_of R6.out 1; have f0 := frozen_of R6.out 0; have f1 := frozen_of R6.out 1; simp at r0 r1))
      have B6 := hide (btr BW.out (btr (bdrew1 wr) b6))
      obtain ⟨ob, d, eo, hE, hd, ho⟩ := own_es OT.out
      cases eo
      have K2 := ((KB.refl (w.heap.size + 1) w6).setCell 0 (.slice ta R.tr.length tc)).setCell 1 (.int .i64 V)
      go_wp2_with fail
      refine bodyPost_ret (En.results_row1 Tryz.results32 _ _ _ _ rfl (loadVar_ran ((Ba.heap_setCell_same (Ba.heap_setCell_same R6.out (i := 0) (.slice ta R.tr.length tc)) (i := 1) (.int .i64 V)).trans rfl) rfl)) rfl ⟨ta, tc, by (rw [hV]) <;> rfl, ?_, ⟨hd, ?_⟩, below_kb B6.out K2 (by omega) B6.out.size⟩
      · have own2 := Cr.own_keep (w' := (w6.setCell ⟨w.heap.size + 1, 0, none⟩ (.slice ta R.tr.length tc)).setCell ⟨w.heap.size + 1, 1, none⟩ (.int .i64 V)) OT.out fun x e => by
          have hx := H2.out.blt e
          refine (K2.block x (Nat.lt_of_lt_of_le hx b6.size) (fun e2 => ?_)).trans ((btr (bdrew1 wr) b6).block x hx)
          have h5 := H2.out.c5 x e
          rw [e2, CJ.out] at h5
          omega
        obtain ⟨ob2, d2, eo2, hE2, -⟩ := own_es own2
        cases eo2
        exact hE2
      · intro a e
        have e5 := H2.out.c5 a.block (Rp.own_addr OT.out a e)
        rcases Nat.lt_or_ge a.block w.heap.size with z | z
        · rw [H2.out.c6 _ z] at e5
          omega
        · exact z
end Rlo
end Go.Proofs.YtblfimobiibmjaaGreat
/- The law's own small case: layer 26, over this seat's program. -/
namespace Go.Proofs.YtblfimobiibmjaaGreat
open Go.ChangeShapes Go.WideShapes Go.ChangeAt Go.RowKit
namespace Ax
open En Gu Eg Ba

abbrev psW : List (List Lo.OpD) := [[⟨1, 1, 0, [], false⟩, ⟨8, 0, 0, [], false⟩], [⟨8, 0, 0, [], false⟩]]
def trW : List Ev := [⟨1, 0, -1, -1, 1, 1, false, false⟩, ⟨10, 0, -1, -1, 0, -1, false, false⟩, ⟨10, 1, -1, -1, 0, -1, false, false⟩]
theorem tok_trW : Tok trW := by
  intro i e he
  match i, he with
  | 0, he => cases he; decide
  | 1, he => cases he; decide
  | 2, he => cases he; decide
  | i + 3, he => simp [trW] at he
theorem allS_trW : allS trW = [⟨0, 1, 1⟩, ⟨0, 2, 2⟩] := by
  refine (allS_of tok_trW (m := [⟨0, 1, 1⟩, ⟨0, 2, 2⟩]) ?_ ?_).symm
  · rw [show allE trW = [⟨0, 1, 1⟩, ⟨0, 2, 2⟩] by rfl]
  · unfold ltE
    simp
theorem ahd_trW : ahd trW = Mx.clo (Mx.sets 3 (fun _ => 0) [(0, 1), (0, 2)]) 3 := by
  unfold ahd relS eds
  rw [allS_trW]
  rfl
theorem has_trW (i k : Int) (b : Bool) (h : Mx.hsI 3 (Mx.clo (Mx.sets 3 (fun _ => 0) [(0, 1), (0, 2)]) 3) i k = b) : Mx.hsI 3 (ahd trW) i k = b := by
  rw [ahd_trW]
  exact h
theorem fir_trW : firA trW 0 = some 2 := by
  unfold firA hA
  rw [ahd_trW]
  decide
theorem whW_at (w : World) : Sh.SAt ((((w.alloc (.cells #[.int .i64 1, .int .i64 1, .int .i64 0, .slice none 0 0, .bool false, .int .i64 8, .int .i64 0, .int .i64 0, .slice none 0 0, .bool false] 64)).alloc (.cells #[.int .i64 8, .int .i64 0, .int .i64 0, .slice none 0 0, .bool false] 64)).alloc (.cells #[.slice (some ⟨w.heap.size, 0, none⟩) 2 2, .slice (some ⟨w.heap.size + 1, 0, none⟩) 1 1] 65)).alloc (.cells #[.int .i64 0, .int .i64 0, .int .i64 1] 3)) ⟨9, 9, psW, [0, 0, 1], []⟩ (some ⟨w.heap.size + 1 + 1, 0, none⟩) (some ⟨w.heap.size + 1 + 1 + 1, 0, none⟩) none ∧ Below w.heap.size w ((((w.alloc (.cells #[.int .i64 1, .int .i64 1, .int .i64 0, .slice none 0 0, .bool false, .int .i64 8, .int .i64 0, .int .i64 0, .slice none 0 0, .bool false] 64)).alloc (.cells #[.int .i64 8, .int .i64 0, .int .i64 0, .slice none 0 0, .bool false] 64)).alloc (.cells #[.slice (some ⟨w.heap.size, 0, none⟩) 2 2, .slice (some ⟨w.heap.size + 1, 0, none⟩) 1 1] 65)).alloc (.cells #[.int .i64 0, .int .i64 0, .int .i64 1] 3)) := by
  have b1 := below_alloc w (.cells #[.int .i64 1, .int .i64 1, .int .i64 0, .slice none 0 0, .bool false, .int .i64 8, .int .i64 0, .int .i64 0, .slice none 0 0, .bool false] 64)
  have h1 := heap_new w (.cells #[.int .i64 1, .int .i64 1, .int .i64 0, .slice none 0 0, .bool false, .int .i64 8, .int .i64 0, .int .i64 0, .slice none 0 0, .bool false] 64)
  have z1 : (w.alloc (.cells #[.int .i64 1, .int .i64 1, .int .i64 0, .slice none 0 0, .bool false, .int .i64 8, .int .i64 0, .int .i64 0, .slice none 0 0, .bool false] 64)).heap.size = w.heap.size + 1 := World.size_alloc ..
  generalize w.alloc (.cells #[.int .i64 1, .int .i64 1, .int .i64 0, .slice none 0 0, .bool false, .int .i64 8, .int .i64 0, .int .i64 0, .slice none 0 0, .bool false] 64) = w1 at *
  have b2 := below_alloc w1 (.cells #[.int .i64 8, .int .i64 0, .int .i64 0, .slice none 0 0, .bool false] 64)
  have h2 := heap_new w1 (.cells #[.int .i64 8, .int .i64 0, .int .i64 0, .slice none 0 0, .bool false] 64)
  have z2 : (w1.alloc (.cells #[.int .i64 8, .int .i64 0, .int .i64 0, .slice none 0 0, .bool false] 64)).heap.size = w1.heap.size + 1 := World.size_alloc ..
  generalize w1.alloc (.cells #[.int .i64 8, .int .i64 0, .int .i64 0, .slice none 0 0, .bool false] 64) = w2 at *
  have b3 := below_alloc w2 (.cells #[.slice (some ⟨w.heap.size, 0, none⟩) 2 2, .slice (some ⟨w.heap.size + 1, 0, none⟩) 1 1] 65)
  have h3 := heap_new w2 (.cells #[.slice (some ⟨w.heap.size, 0, none⟩) 2 2, .slice (some ⟨w.heap.size + 1, 0, none⟩) 1 1] 65)
  have z3 : (w2.alloc (.cells #[.slice (some ⟨w.heap.size, 0, none⟩) 2 2, .slice (some ⟨w.heap.size + 1, 0, none⟩) 1 1] 65)).heap.size = w2.heap.size + 1 := World.size_alloc ..
  generalize w2.alloc (.cells #[.slice (some ⟨w.heap.size, 0, none⟩) 2 2, .slice (some ⟨w.heap.size + 1, 0, none⟩) 1 1] 65) = w3 at *
  have b4 := below_alloc w3 (.cells #[.int .i64 0, .int .i64 0, .int .i64 1] 3)
  have h4 := heap_new w3 (.cells #[.int .i64 0, .int .i64 0, .int .i64 1] 3)
  generalize w3.alloc (.cells #[.int .i64 0, .int .i64 0, .int .i64 1] 3) = w4 at *
  rw [z3, z2, z1] at h4
  rw [z2, z1] at h3
  rw [z1] at h2
  have g1 := heap_below (heap_below (heap_below h1 b2) b3) b4
  have g2 := heap_below (heap_below h2 b3) b4
  have g3 := heap_below h3 b4
  refine ⟨⟨?_, ?_, fun k hk => absurd hk (Nat.not_lt_zero _), by decide, by decide, by decide⟩, btr (btr (btr b1 b2) b3) b4⟩
  · intro k q hq
    match k, hq with
    | 0, hq =>
      obtain rfl : q = [⟨1, 1, 0, [], false⟩, ⟨8, 0, 0, [], false⟩] := by simpa [psW] using hq.symm
      refine ⟨_, _, _, 2, rfl, cell_of g3 0, ?_, by decide⟩
      intro j o ho
      match j, ho with
      | 0, ho =>
        obtain rfl : o = ⟨1, 1, 0, [], false⟩ := by simpa using ho.symm
        exact ⟨_, _, none, 0, rfl, ⟨cell_of g1 0, cell_of g1 1, cell_of g1 2, cell_of g1 3, cell_of g1 4⟩, (fun k x hk => by simp at hk), by decide⟩
      | 1, ho =>
        obtain rfl : o = ⟨8, 0, 0, [], false⟩ := by simpa using ho.symm
        exact ⟨_, _, none, 0, rfl, ⟨cell_of g1 5, cell_of g1 6, cell_of g1 7, cell_of g1 8, cell_of g1 9⟩, (fun k x hk => by simp at hk), by decide⟩
      | j + 2, ho => simp at ho
    | 1, hq =>
      obtain rfl : q = [⟨8, 0, 0, [], false⟩] := by simpa [psW] using hq.symm
      refine ⟨_, _, _, 1, rfl, cell_of g3 1, ?_, by decide⟩
      intro j o ho
      match j, ho with
      | 0, ho =>
        obtain rfl : o = ⟨8, 0, 0, [], false⟩ := by simpa using ho.symm
        exact ⟨_, _, none, 0, rfl, ⟨cell_of g2 0, cell_of g2 1, cell_of g2 2, cell_of g2 3, cell_of g2 4⟩, (fun k x hk => by simp at hk), by decide⟩
      | j + 1, ho => simp at ho
    | k + 2, hq => simp [psW] at hq
  · intro k hk
    have hk' : k < 3 := hk
    match k, hk' with
    | 0, _ => exact ⟨_, _, rfl, cell_of h4 0⟩
    | 1, _ => exact ⟨_, _, rfl, cell_of h4 1⟩
    | 2, _ => exact ⟨_, _, rfl, cell_of h4 2⟩
set_option maxRecDepth 100000 in
set_option maxHeartbeats 3200000 in
theorem write_any (w : World) : Calls Tryz.prog 17 #[] w fun r w' => r = .returned (.bool true) ∧ Below w.heap.size w w' := by
  obtain ⟨S0, B0⟩ := whW_at w
  obtain ⟨R, hR⟩ : ∃ R, Lo.runF ⟨9, 9, psW, [0, 0, 1], []⟩ = R := ⟨_, rfl⟩
  have r1 : (Lo.runF ⟨9, 9, psW, [0, 0, 1], []⟩).tr = trW := by rfl
  have r2 : Lo.verd (Lo.runF ⟨9, 9, psW, [0, 0, 1], []⟩) = 4 := by rfl
  rw [hR] at r1 r2
  have RN := hide (Rlo.rlrun_yes 9 9 psW [0, 0, 1] [] _ _ none 2 3 0 _ S0 (by decide) R hR)
  rw [r1, r2, show trW.length = 3 from rfl] at RN
  have TB : tokB trW = true := tokB_iff.2 tok_trW
  have FI := hide (fun (oa : Option Addr) (c : Nat) (u : World) (hA : EsAt u oa trW) => first_yes oa trW c 0 u hA (by decide) TB)
  rw [fir_trW, show fr1 (some 2) = 2 from rfl, show cellE 0 = 0 from rfl, show (some 2 : Option Nat).isSome = true from rfl] at FI
  have AH := hide (fun (oa : Option Addr) (c : Nat) (u : World) (hA : EsAt u oa trW) => ahead_yes oa trW c u hA (by decide) TB)
  have H0 := has_trW 0 2 true (by decide)
  have H1 := has_trW 1 2 false (by decide)
  have L3 : trW.length = 3 := rfl
  rw [L3] at FI AH
  have B0 := hide B0
  clear hR r1 r2 S0 TB
  go_enter Tryz.func17, Tryz.ntmps17
  go_wp2_with fail
  refine RN.out.mono ?_
  rintro r w1 ⟨ob, d, rfl, e1, -, b1⟩
  have B1 := hide (btr B0.out b1)
  have hfd : ∀ u, (Instr.field 60 (.agg #[.slice ob 3 d, .int .i64 4]) 0).run Tryz.prog u = .ok (.slice ob 3 d) u := fun _ => by kernel_rfl
  have F1 := hide (FI.out ob d w1 e1)
  have E1 := hide e1
  clear e1 b1 RN FI
  go_wp2_with fail
  refine F1.out.mono ?_
  rintro r w2 ⟨rfl, b2⟩
  have B2 := hide (btr B1.out b2)
  have A2 := hide (AH.out ob d w2 (E1.out.below b2))
  clear b2 F1 AH
  go_wp2_with fail
  refine A2.out.mono ?_
  rintro r w3 ⟨M, R, W, rfl, m3, b3⟩
  have B3 := hide (btr B2.out b3)
  have HA0 := Mx.has_any m3 0 2
  rw [H0] at HA0
  have HA0 := hide HA0
  have M3 := hide m3
  clear b3 A2 m3
  go_wp2_with fail
  refine HA0.out.mono ?_
  rintro r w4 ⟨rfl, n4, rfl⟩
  have HA1 := Mx.has_any (M3.out.drw n4) 1 2
  rw [H1] at HA1
  have HA1 := hide HA1
  go_wp2_with fail
  refine HA1.out.mono ?_
  rintro r w5 ⟨rfl, n5, rfl⟩
  go_wp2_with fail
  go_ret
  exact ⟨rfl, btr B3.out (bdrew w3 (n4 + n5))⟩
end Ax
end Go.Proofs.YtblfimobiibmjaaGreat
/- Layer 25 (matrix), over this seat's program: OnesCount64, Count. -/
namespace Go.Proofs.YtblfimobiibmjaaGreat
open Go.ChangeShapes Go.WideShapes Go.ChangeAt Go.RowKit
namespace Mx
open Ba (KB btr heap_lt cell_of frozen_of ret_bool ret_int bdrew bdrew1 heap_new below_alloc heap_below own_below)

theorem wrap_i64n (n : Nat) (h : n < 9223372036854775808) : IntKind.i64.wrap (n : Int) = (n : Int) := by
  rw [IntKind.wrap_i64]; omega
theorem and_i64 (x : Nat) (hx : x < 9223372036854775808) : bits .and .i64 (x : Int) 127 = ((x % 128 : Nat) : Int) := by
  have e : bits .and .i64 (x : Int) 127 = IntKind.i64.wrap (((BitVec.ofInt 64 (x : Int)) &&& (BitVec.ofInt 64 ((127 : Nat) : Int))).toNat : Int) := rfl
  rw [e, BitVec.toNat_and, ofInt_nat x (by omega), ofInt_nat 127 (by omega)]
  have : x &&& 127 = x % 128 := Nat.and_two_pow_sub_one_eq_mod x 7
  rw [this]
  exact wrap_i64n _ (by omega)
theorem div_nat (x d : Nat) : ((x : Int) / (d : Int)) = ((x / d : Nat) : Int) := by exact (Int.natCast_ediv x d).symm
theorem q1 (x : Nat) (h : x < 18446744073709551616) (ho : o1 x < 18446744073709551616) : IntKind.u64.wrap (bits .and .u64 ((x : Int) / 2) 6148914691236517205 + bits .and .u64 (x : Int) 6148914691236517205) = ((o1 x : Nat) : Int) := by
  have e1 := and_nat (x / 2) 6148914691236517205 (by omega) (by omega)
  have e2 := and_nat x 6148914691236517205 h (by omega)
  rw [show ((x / 2 : Nat) : Int) = (x : Int) / 2 from Int.natCast_ediv x 2] at e1
  rw [show ((6148914691236517205 : Nat) : Int) = 6148914691236517205 from rfl] at e1 e2
  rw [e1, e2, ← Int.natCast_add]
  exact wrap_u64n _ ho
theorem q2 (x : Nat) (h : x < 18446744073709551616) (ho : o2 x < 18446744073709551616) : IntKind.u64.wrap (bits .and .u64 ((x : Int) / 4) 3689348814741910323 + bits .and .u64 (x : Int) 3689348814741910323) = ((o2 x : Nat) : Int) := by
  have e1 := and_nat (x / 4) 3689348814741910323 (by omega) (by omega)
  have e2 := and_nat x 3689348814741910323 h (by omega)
  rw [show ((x / 4 : Nat) : Int) = (x : Int) / 4 from Int.natCast_ediv x 4] at e1
  rw [show ((3689348814741910323 : Nat) : Int) = 3689348814741910323 from rfl] at e1 e2
  rw [e1, e2, ← Int.natCast_add]
  exact wrap_u64n _ ho
theorem q3 (x : Nat) (h : x < 4991471925827290437) : bits .and .u64 (IntKind.u64.wrap ((x : Int) / 16 + (x : Int))) 1085102592571150095 = ((o3 x : Nat) : Int) := by
  have e0 : IntKind.u64.wrap ((x : Int) / 16 + (x : Int)) = ((x / 16 + x : Nat) : Int) := by
    rw [show (x : Int) / 16 + (x : Int) = ((x / 16 + x : Nat) : Int) by omega]
    exact wrap_u64n _ (by omega)
  have e1 := and_nat (x / 16 + x) 1085102592571150095 (by omega) (by omega)
  rw [show ((1085102592571150095 : Nat) : Int) = 1085102592571150095 from rfl] at e1
  rw [e0, e1]
  rfl
theorem q4 (x : Nat) (h : o4 x < 9223372036854775808) : IntKind.u64.wrap ((x : Int) + (x : Int) / 256) = ((o4 x : Nat) : Int) := by
  rw [show (x : Int) + (x : Int) / 256 = ((o4 x : Nat) : Int) by unfold o4; omega]
  exact wrap_u64n _ (by omega)
theorem q5 (x : Nat) (h : o5 x < 9223372036854775808) : IntKind.u64.wrap ((x : Int) + (x : Int) / 65536) = ((o5 x : Nat) : Int) := by
  rw [show (x : Int) + (x : Int) / 65536 = ((o5 x : Nat) : Int) by unfold o5; omega]
  exact wrap_u64n _ (by omega)
theorem q6 (x : Nat) (h : o6 x < 9223372036854775808) : IntKind.u64.wrap ((x : Int) + (x : Int) / 4294967296) = ((o6 x : Nat) : Int) := by
  rw [show (x : Int) + (x : Int) / 4294967296 = ((o6 x : Nat) : Int) by unfold o6; omega]
  exact wrap_u64n _ (by omega)
theorem qs (x : Nat) (h : x < 18446744073709551616) : ∃ y1 y2 y3 y4 y5 y6 : Nat, IntKind.u64.wrap (bits .and .u64 ((x : Int) / 2) 6148914691236517205 + bits .and .u64 (x : Int) 6148914691236517205) = (y1 : Int) ∧
    IntKind.u64.wrap (bits .and .u64 ((y1 : Int) / 4) 3689348814741910323 + bits .and .u64 (y1 : Int) 3689348814741910323) = (y2 : Int) ∧ bits .and .u64 (IntKind.u64.wrap ((y2 : Int) / 16 + (y2 : Int))) 1085102592571150095 = (y3 : Int) ∧
    IntKind.u64.wrap ((y3 : Int) + (y3 : Int) / 256) = (y4 : Int) ∧ IntKind.u64.wrap ((y4 : Int) + (y4 : Int) / 65536) = (y5 : Int) ∧ IntKind.u64.wrap ((y5 : Int) + (y5 : Int) / 4294967296) = (y6 : Int) ∧ IntKind.i64.wrap (y6 : Int) = (y6 : Int) ∧ bits .and .i64 (y6 : Int) 127 = ((cnt x 64 : Nat) : Int) := by
  obtain ⟨l, hl, hb, e3, hc, b1, b2⟩ := ones_is x h
  obtain ⟨c1, c2, c3, c4, c5⟩ := ones_end l hl hb
  rw [← e3] at c1 c2 c3 c4 c5
  rw [← hc] at c1
  refine ⟨o1 x, o2 (o1 x), o3 (o2 (o1 x)), o4 (o3 (o2 (o1 x))), o5 (o4 (o3 (o2 (o1 x)))), o6 (o5 (o4 (o3 (o2 (o1 x))))), q1 x h b1, q2 _ b1 (by omega), q3 _ b2, q4 _ c4, q5 _ c3, q6 _ c2, wrap_i64n _ c2, ?_⟩
  rw [and_i64 _ c2, c1]
/-- a row's pairs, word by word -/
theorem cnt_wd (x j : Nat) : cnt x (64 * (j + 1)) = cnt x (64 * j) + cnt (wd x j) 64 := by
  rw [show 64 * (j + 1) = 64 * j + 64 by omega, cnt_add]
  unfold wd
  rw [cnt_mod]
theorem cnt_all {n : Nat} {r : Rws} (h : Bd n r) (i : Nat) : cnt (r i) (64 * ln n) = cnt (r i) n := by
  have : ∀ d, cnt (r i) (n + d) = cnt (r i) n := by
    intro d
    induction d with
    | zero => rfl
    | succ d ih =>
      rw [← Nat.add_assoc]
      simp only [cnt]
      have : (r i).testBit (n + d) = false := h i (n + d) (by omega)
      rw [this, ih]; simp
  have := this (64 * ln n - n)
  rwa [show n + (64 * ln n - n) = 64 * ln n by unfold ln; omega] at this
end Mx
end Go.Proofs.YtblfimobiibmjaaGreat
/- Layer 25 (matrix), over this seat's program: Copy. -/
namespace Go.Proofs.YtblfimobiibmjaaGreat
open Go.ChangeShapes Go.WideShapes Go.ChangeAt Go.RowKit
namespace Mx
open Ba (KB btr heap_lt cell_of frozen_of ret_bool ret_int bdrew bdrew1 heap_new below_alloc heap_below own_below)

theorem setCells_kb (b : Nat) : ∀ (vs : List Value) (o : Nat) (w : World), KB b w (w.setCells b o vs) ∧ ∀ k, (w.setCells b o vs).frozen? ⟨b, k, none⟩ = w.frozen? ⟨b, k, none⟩
  | [], o, w => ⟨KB.refl _ _, fun _ => rfl⟩
  | v :: vs, o, w => by
    have h := setCells_kb b vs (o + 1) (w.setCell ⟨b, o, none⟩ v)
    refine ⟨((KB.refl b w).setCell o v).trans h.1, fun k => (h.2 k).trans (World.frozen?_setCell _ _ _ _)⟩
/-- a row's words -/
def wds (x L : Nat) : List Value := (List.range L).map fun j => .int .u64 (wd x j)
theorem wds_len (x L : Nat) : (wds x L).length = L := by simp [wds]
theorem wds_at (x L j : Nat) (h : j < L) : (wds x L)[j]? = some (.int .u64 (wd x j)) := by simp [wds, h]
theorem wds_one (x L : Nat) : ∀ v ∈ wds x L, v.oneCell' = true := by
  intro v hv
  obtain ⟨b, -, rfl⟩ := List.mem_map.1 hv
  rfl
theorem MW.putRow {w : World} {M R W n : Nat} {q : Rws} (m : MW w M R W n q) (k x : Nat) (hk : k < n) (hx : ∀ b, n ≤ b → x.testBit b = false) :
    MW (w.setCells W (k * ln n) (wds x (ln n))) M R W n (upd q k x) := by
  obtain ⟨kb, fz⟩ := setCells_kb W (wds x (ln n)) (k * ln n) w
  refine ⟨m.le, (kb.block M m.cell_lt m.mw).trans m.hd, fun i hi => (cell_kept (kb.block R m.rl m.rw) i).trans (m.row i hi), ?_, fun j => (fz j).trans (m.frz j), m.mw, m.rw, ?_, Nat.lt_of_lt_of_le m.rl kb.size, Nat.lt_of_lt_of_le m.wl kb.size⟩
  · intro i j hi hj
    by_cases e : i = k
    · subst e
      rw [upd_same]
      have := World.cell?_setCells_in W (wds x (ln n)) (i * ln n) w (fun j hj => by rw [wds_len] at hj; rw [m.wrd i j hi hj]; rfl) j (by rw [wds_len]; exact hj)
      rw [this]
      have h2 := wds_at x (ln n) j hj
      rw [List.getElem?_eq_getElem (by rw [wds_len]; exact hj)] at h2
      exact h2
    · rw [upd_ne _ _ _ _ e]
      rw [World.cell?_setCells_out W (wds x (ln n)) (k * ln n) w ⟨W, i * ln n + j, none⟩ (fun _ _ => by
        rw [wds_len]
        rcases Nat.lt_or_ge i k with h | h
        · left
          have : (i + 1) * ln n ≤ k * ln n := Nat.mul_le_mul_right _ h
          rw [Nat.succ_mul] at this
          show i * ln n + j < _
          omega
        · right
          have : (k + 1) * ln n ≤ i * ln n := Nat.mul_le_mul_right _ (by omega)
          rw [Nat.succ_mul] at this
          show _ ≤ i * ln n + j
          omega)]
      exact m.wrd i j hi hj
  · intro i b hb
    by_cases e : i = k
    · subst e; unfold hs; rw [upd_same]; exact hx b hb
    · unfold hs; rw [upd_ne _ _ _ _ e]; exact m.bd i b hb
/-- the first k rows -/
def fst (r : Rws) (k : Nat) : Rws := fun a => if a < k then r a else 0
theorem fst_zero (r : Rws) : fst r 0 = fun _ => 0 := by funext a; simp [fst]
theorem fst_succ (r : Rws) (k : Nat) : upd (fst r k) k (r k) = fst r (k + 1) := by
  funext a
  unfold upd fst
  by_cases e : a = k
  · subst e; simp
  · have : (a < k + 1) = (a < k) := by apply propext; omega
    simp only [e, if_false, this]
theorem MW.ext {w : World} {M R W n : Nat} {q r : Rws} (m : MW w M R W n q) (hb : Bd n r) (h : ∀ i, i < n → q i = r i) : MW w M R W n r :=
  ⟨m.le, m.hd, m.row, fun i j hi hj => by rw [← h i hi]; exact m.wrd i j hi hj, m.frz, m.mw, m.rw, hb, m.rl, m.wl⟩
theorem run_cpw {w : World} {b o a p L : Nat} (x : Nat) (ty : TypeId) (hs : ∀ j, j < L → w.cell? ⟨a, p + j, none⟩ = some (.int .u64 (wd x j))) (hd : ∀ j, j < L → (w.cell? ⟨b, o + j, none⟩).isSome = true) (hf : ∀ k, w.frozen? ⟨b, k, none⟩ = false) :
    (Builtin.copy_ #[93, 93] ty #[.slice (some ⟨b, o, none⟩) L L, .slice (some ⟨a, p, none⟩) L L]).run Tryz.prog w = .ok (goInt L) (w.setCells b o (wds x L)) := by
  have hsz : (Tryz.prog.info? 92).map (·.size) = some 1 := by
    obtain ⟨i0, hi, hz0, hz1, hz2⟩ := info_parts info_u
    simp [hi, hz1]
  have := run_copy_cells (P := Tryz.prog) w 93 93 ty 92 b o L L ⟨a, p, none⟩ L L (wds x L) Tryz.underlying93 hsz (by rw [wds_len]; simp) (fun j v hj => by
    have hjl : j < L := by have := (List.getElem?_eq_some_iff.1 hj).1; rwa [wds_len] at this
    rw [wds_at x L j hjl] at hj
    cases hj
    rw [Addr.add_lit]
    exact hs j hjl) (fun j hj => by rw [wds_len] at hj; exact hd j hj) (fun j _ => hf _) (wds_one x L)
  rw [wds_len] at this
  exact this
end Mx
end Go.Proofs.YtblfimobiibmjaaGreat
