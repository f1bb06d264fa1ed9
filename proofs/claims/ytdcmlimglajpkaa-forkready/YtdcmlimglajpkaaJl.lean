/- The acts of a law, opened; the laws' own ref, large. -/
import Derived.Test.YtdcmlimglajpkaaJk
import Derived.Deep.Slices
import Derived.ShutString
import Derived.ChangeOld
namespace Go.Proofs.Ytdcmlimglajpkaa
open Go.ChangeShapes Go.WideShapes Go.ChangeAt Go.RowKit
namespace Fk
open Ba Pe _root_.Go.Proofs.Ytdcmlimglajpkaa.Pi Rp

theorem cells_case : Try.prog.cellsOf 32 = 3 := by kernel_rfl
theorem cells_act : Try.prog.cellsOf 35 = 6 := by kernel_rfl
theorem cells_bool : Try.prog.cellsOf 4 = 1 := by kernel_rfl
theorem cells_cases : Try.prog.cellsOf 33 = 1 := by kernel_rfl
theorem fieldsC : ∃ fs : Array Field, Try.prog.underlying 32 = some (.struct fs) ∧ fs.size = 3 ∧ (∃ f, fs[0]? = some f ∧ f.offset = 0 ∧ f.type = 4) ∧ (∃ f, fs[1]? = some f ∧ f.offset = 1 ∧ f.type = 3) ∧ (∃ f, fs[2]? = some f ∧ f.offset = 2 ∧ f.type = 3) :=
  ⟨_, Try.underlying32, rfl, ⟨_, rfl, rfl, rfl⟩, ⟨_, rfl, rfl, rfl⟩, ⟨_, rfl, rfl, rfl⟩⟩
theorem fieldsA : ∃ fs : Array Field, Try.prog.underlying 35 = some (.struct fs) ∧ fs.size = 4 ∧ (∃ f, fs[0]? = some f ∧ f.offset = 0 ∧ f.type = 3) ∧ (∃ f, fs[1]? = some f ∧ f.offset = 1 ∧ f.type = 3) ∧ (∃ f, fs[2]? = some f ∧ f.offset = 2 ∧ f.type = 32) ∧ (∃ f, fs[3]? = some f ∧ f.offset = 5 ∧ f.type = 33) :=
  ⟨_, Try.underlying35, rfl, ⟨_, rfl, rfl, rfl⟩, ⟨_, rfl, rfl, rfl⟩, ⟨_, rfl, rfl, rfl⟩, ⟨_, rfl, rfl, rfl⟩⟩
/-- an act -/
structure Ac where
  what : Int
  g : Int
  c : Ca
  l : List Ca
/-- the acts L lie at oa -/
def AAt (w : World) (oa : Option Addr) (L : List Ac) : Prop :=
  ∀ k x, L[k]? = some x → ∃ b off la lc, oa = some ⟨b, off, none⟩ ∧ w.cell? ⟨b, off + k * 6, none⟩ = some (.int .i64 x.what) ∧ w.cell? ⟨b, off + k * 6 + 1, none⟩ = some (.int .i64 x.g) ∧ w.cell? ⟨b, off + k * 6 + 2, none⟩ = some (.bool x.c.sd) ∧ w.cell? ⟨b, off + k * 6 + 3, none⟩ = some (.int .i64 x.c.ch) ∧ w.cell? ⟨b, off + k * 6 + 4, none⟩ = some (.int .i64 x.c.v) ∧ w.cell? ⟨b, off + k * 6 + 5, none⟩ = some (.slice la x.l.length lc) ∧ CaAt w la x.l ∧ x.l.length ≤ maxLen
theorem AAt.nil (w : World) (oa : Option Addr) : AAt w oa [] := fun _ _ h => by simp at h
theorem AAt.below {w w' : World} {oa : Option Addr} {l : List Ac} (h : AAt w oa l) (hb : Below w.heap.size w w') : AAt w' oa l := by
  intro k x hk
  obtain ⟨b, off, la, lc, e, h0, h1, h2, h3, h4, h5, h6, h7⟩ := h k x hk
  have up : ∀ {i : Nat} {v : Value}, w.cell? ⟨b, i, none⟩ = some v → w'.cell? ⟨b, i, none⟩ = some v := fun q => (hb.cell (World.block_lt_of_cell? w _ q)).trans q
  exact ⟨b, off, la, lc, e, up h0, up h1, up h2, up h3, up h4, up h5, h6.below hb, h7⟩
theorem CaAt.lt {w : World} {oa : Option Addr} {l : List Ca} (h : CaAt w oa l) (hl : 0 < l.length) (a : Addr) (e : oa = some a) : a.block < w.heap.size := by
  obtain ⟨b, off, e2, h0, h1, h2⟩ := h 0 _ (List.getElem?_eq_getElem hl)
  rw [e] at e2
  cases e2
  exact World.block_lt_of_cell? w _ h0
section
variable {H : Type} {enc : TypeId × Value → H} {w : World}
theorem case_open {n : Nat} {cs : List Value} {x : DataW H × List MemPlace} (h : DataW.trod enc Try.prog w 0 (fun _ => true) true n 32 cs = some x) : ∃ c : Ca, cs[0]? = some (.bool c.sd) ∧ cs[1]? = some (.int .i64 c.ch) ∧ cs[2]? = some (.int .i64 c.v) := by
  obtain ⟨fs, hu, hsz, field3_0, field3_1, field3_2⟩ := fieldsC
  obtain ⟨xs, k, _, _, _, hxl, hff⟩ := DataW.trod_struct hu h
  rw [hsz] at hxl
  obtain ⟨f0, g0, o0, t0⟩ := field3_0
  have h0 := hff 0 f0 g0
  rw [o0, t0, cells_bool] at h0
  obtain ⟨f1, g1, o1, t1⟩ := field3_1
  have h1 := hff 1 f1 g1
  rw [o1, t1, cells_int] at h1
  obtain ⟨f2, g2, o2, t2⟩ := field3_2
  have h2 := hff 2 f2 g2
  rw [o2, t2, cells_int] at h2
  rw [List.getElem?_eq_getElem (by omega)] at h0 h1 h2
  obtain ⟨b, hb, _⟩ := DataW.trod_bool Try.underlying4 h0
  obtain ⟨c, hc, _⟩ := DataW.trod_int Try.underlying3 h1
  obtain ⟨v, hv, _⟩ := DataW.trod_int Try.underlying3 h2
  exact ⟨⟨b, c, v⟩, one_of hb, one_of hc, one_of hv⟩
theorem cases_open {n : Nat} {v : Value} {x : DataW H × List MemPlace} (h : DataW.trod enc Try.prog w 0 (fun _ => true) true n 33 [v] = some x) : ∃ (l : List Ca) (oa : Option Addr) (c : Nat), v = .slice oa l.length c ∧ CaAt w oa l ∧ l.length ≤ maxLen := by
  rcases Go.Deep.open_slice Try.underlying33 h with ⟨hcs, _⟩ | ⟨a, len, cap, m, n', D, Pl, hcs, _, hl, hm, hmm, _, hel⟩
  · simp at hcs
    subst hcs
    exact ⟨[], none, 0, rfl, CaAt.nil _ _, Nat.zero_le _⟩
  · simp at hcs
    subst hcs
    have hmc : m = cap := by simpa using hmm
    subst hmc
    have key : ∀ i, i < len → ∃ c : Ca, w.cell? ((a.add (i * 3)).add 0) = some (.bool c.sd) ∧ w.cell? ((a.add (i * 3)).add 1) = some (.int .i64 c.ch) ∧ w.cell? ((a.add (i * 3)).add 2) = some (.int .i64 c.v) := by
      intro i hi
      obtain ⟨cs', h1, h2⟩ := hel i (by omega)
      rw [cells_case] at h1
      obtain ⟨_, _, hcell⟩ := World.cells?_some h1
      obtain ⟨c, q0, q1, q2⟩ := case_open h2
      exact ⟨c, (hcell 0 (by decide)).trans q0, (hcell 1 (by decide)).trans q1, (hcell 2 (by decide)).trans q2⟩
    have fam : ∃ f : Nat → Ca, ∀ i, i < len → w.cell? ((a.add (i * 3)).add 0) = some (.bool (f i).sd) ∧ w.cell? ((a.add (i * 3)).add 1) = some (.int .i64 (f i).ch) ∧ w.cell? ((a.add (i * 3)).add 2) = some (.int .i64 (f i).v) := by
      refine ⟨fun i => if hi : i < len then Classical.choose (key i hi) else ⟨false, 0, 0⟩, fun i hi => ?_⟩
      simp only [dif_pos hi]
      exact Classical.choose_spec (key i hi)
    obtain ⟨f, hf⟩ := fam
    have hlen : ((List.range len).map f).length = len := by simp
    refine ⟨(List.range len).map f, some a, m, by rw [hlen], ?_, by rw [hlen]; omega⟩
    intro k c hk
    have hk2 : k < len := by
      have := (List.getElem?_eq_some_iff.1 hk).1
      simpa using this
    have hc : c = f k := by
      simp [hk2] at hk
      exact hk.symm
    subst hc
    have hspot : a.spot = none := by
      have := World.cell?_spot (hf 0 (by omega)).1
      simpa [Addr.add] using this
    obtain ⟨b, off, spot⟩ := a
    simp at hspot
    subst hspot
    obtain ⟨q0, q1, q2⟩ := hf k hk2
    rw [Addr.add_lit, Addr.add_lit] at q0 q1 q2
    exact ⟨b, off, rfl, q0, q1, q2⟩
set_option maxRecDepth 100000 in
/-- a case among a law's arguments -/
theorem caseV_open {n : Nat} {v : Value} {x : DataW H × List MemPlace} (h : DataW.trod enc Try.prog w 0 (fun _ => true) true n 32 v.cells.toList = some x) : ∃ c : Ca, v = cv c := by
  obtain ⟨fs, hu, hsz, _⟩ := fieldsC
  obtain ⟨_, _, _, _, hcl, _⟩ := DataW.trod_struct hu h
  rw [cells_case] at hcl
  obtain ⟨c, q0, q1, q2⟩ := case_open h
  refine ⟨c, ?_⟩
  have hc : v.cells = #[.bool c.sd, .int .i64 c.ch, .int .i64 c.v] := by
    apply Array.toList_inj.1
    generalize v.cells.toList = L at *
    match L, hcl with
    | [y0, y1, y2], _ =>
      simp at q0 q1 q2
      simp [q0, q1, q2]
  cases v with
  | agg cs => unfold cv; rw [← hc]; rfl
  | _ => have := congrArg Array.size hc; simp [Value.cells] at this
theorem act_open {n : Nat} {cs : List Value} {x : DataW H × List MemPlace} (h : DataW.trod enc Try.prog w 0 (fun _ => true) true n 35 cs = some x) : ∃ (a : Ac) (la : Option Addr) (lc : Nat), cs[0]? = some (.int .i64 a.what) ∧ cs[1]? = some (.int .i64 a.g) ∧ cs[2]? = some (.bool a.c.sd) ∧ cs[3]? = some (.int .i64 a.c.ch) ∧ cs[4]? = some (.int .i64 a.c.v) ∧ cs[5]? = some (.slice la a.l.length lc) ∧ CaAt w la a.l ∧ a.l.length ≤ maxLen := by
  obtain ⟨fs, hu, hsz, fA0, fA1, fA2, fA3⟩ := fieldsA
  obtain ⟨xs, k, _, _, hcl, hxl, hff⟩ := DataW.trod_struct hu h
  rw [hsz] at hxl
  rw [cells_act] at hcl
  obtain ⟨f0, g0, o0, t0⟩ := fA0
  have h0 := hff 0 f0 g0
  rw [o0, t0, cells_int] at h0
  obtain ⟨f1, g1, o1, t1⟩ := fA1
  have h1 := hff 1 f1 g1
  rw [o1, t1, cells_int] at h1
  obtain ⟨f2, g2, o2, t2⟩ := fA2
  have h2 := hff 2 f2 g2
  rw [o2, t2, cells_case] at h2
  obtain ⟨f3, g3, o3, t3⟩ := fA3
  have h3 := hff 3 f3 g3
  rw [o3, t3, cells_cases] at h3
  rw [List.getElem?_eq_getElem (by omega)] at h0 h1 h2 h3
  obtain ⟨i0, e0, _⟩ := DataW.trod_int Try.underlying3 h0
  obtain ⟨i1, e1, _⟩ := DataW.trod_int Try.underlying3 h1
  obtain ⟨c, q0, q1, q2⟩ := case_open h2
  have hz : ∃ z, (cs.drop 5).take 1 = [z] := by
    have hl : ((cs.drop 5).take 1).length = 1 := by simp; omega
    match hq : (cs.drop 5).take 1, hl with
    | [z], _ => exact ⟨z, rfl⟩
  obtain ⟨z, e3⟩ := hz
  rw [e3] at h3
  obtain ⟨l, la, lc, rfl, hA, hm⟩ := cases_open h3
  have dr : ∀ {j : Nat} {v : Value}, ((cs.drop 2).take 3)[j]? = some v → cs[2 + j]? = some v := by
    intro j v hj
    rw [List.getElem?_take] at hj
    split at hj
    · rwa [List.getElem?_drop] at hj
    · cases hj
  exact ⟨⟨i0, i1, c, l⟩, la, lc, one_of e0, one_of e1, dr q0, dr q1, dr q2, one_of e3, hA, hm⟩
theorem acts_open {n : Nat} {oa : Option Addr} {len cap : Nat} {x : DataW H × List MemPlace} (h : DataW.trod enc Try.prog w 0 (fun _ => true) true n 23 [.slice oa len cap] = some x) : ∃ L : List Ac, L.length = len ∧ AAt w oa L ∧ len ≤ cap ∧ cap ≤ maxLen := by
  rcases Go.Deep.open_slice Try.underlying23 h with ⟨hcs, _⟩ | ⟨a, len', cap', m, n', D, Pl, hcs, _, hl, hm, hmm, _, hel⟩
  · simp at hcs
    obtain ⟨rfl, rfl, rfl⟩ := hcs
    exact ⟨[], rfl, AAt.nil _ _, Nat.le_refl _, Nat.zero_le _⟩
  · simp at hcs
    obtain ⟨rfl, rfl, rfl⟩ := hcs
    have hmc : m = cap := by simpa using hmm
    subst hmc
    have key : ∀ i, i < len → ∃ x : Ac, ∃ la lc, w.cell? ((a.add (i * 6)).add 0) = some (.int .i64 x.what) ∧ w.cell? ((a.add (i * 6)).add 1) = some (.int .i64 x.g) ∧ w.cell? ((a.add (i * 6)).add 2) = some (.bool x.c.sd) ∧ w.cell? ((a.add (i * 6)).add 3) = some (.int .i64 x.c.ch) ∧ w.cell? ((a.add (i * 6)).add 4) = some (.int .i64 x.c.v) ∧ w.cell? ((a.add (i * 6)).add 5) = some (.slice la x.l.length lc) ∧ CaAt w la x.l ∧ x.l.length ≤ maxLen := by
      intro i hi
      obtain ⟨cs', h1, h2⟩ := hel i (by omega)
      rw [cells_act] at h1
      obtain ⟨_, _, hcell⟩ := World.cells?_some h1
      obtain ⟨x, la, lc, q0, q1, q2, q3, q4, q5, q6, q7⟩ := act_open h2
      exact ⟨x, la, lc, (hcell 0 (by decide)).trans q0, (hcell 1 (by decide)).trans q1, (hcell 2 (by decide)).trans q2, (hcell 3 (by decide)).trans q3, (hcell 4 (by decide)).trans q4, (hcell 5 (by decide)).trans q5, q6, q7⟩
    have fam : ∃ f : Nat → Ac, ∀ i, i < len → ∃ la lc, w.cell? ((a.add (i * 6)).add 0) = some (.int .i64 (f i).what) ∧ w.cell? ((a.add (i * 6)).add 1) = some (.int .i64 (f i).g) ∧ w.cell? ((a.add (i * 6)).add 2) = some (.bool (f i).c.sd) ∧ w.cell? ((a.add (i * 6)).add 3) = some (.int .i64 (f i).c.ch) ∧ w.cell? ((a.add (i * 6)).add 4) = some (.int .i64 (f i).c.v) ∧ w.cell? ((a.add (i * 6)).add 5) = some (.slice la (f i).l.length lc) ∧ CaAt w la (f i).l ∧ (f i).l.length ≤ maxLen := by
      refine ⟨fun i => if hi : i < len then Classical.choose (key i hi) else ⟨0, 0, ⟨false, 0, 0⟩, []⟩, fun i hi => ?_⟩
      simp only [dif_pos hi]
      exact Classical.choose_spec (key i hi)
    obtain ⟨f, hf⟩ := fam
    refine ⟨(List.range len).map f, by simp, ?_, hl, hm⟩
    intro k c hk
    have hk2 : k < len := by
      have := (List.getElem?_eq_some_iff.1 hk).1
      simpa using this
    have hc : c = f k := by
      simp [hk2] at hk
      exact hk.symm
    subst hc
    have hspot : a.spot = none := by
      obtain ⟨_, _, q, _⟩ := hf 0 (by omega)
      have := World.cell?_spot q
      simpa [Addr.add] using this
    obtain ⟨b, off, spot⟩ := a
    simp at hspot
    subst hspot
    obtain ⟨la, lc, q0, q1, q2, q3, q4, q5, q6, q7⟩ := hf k hk2
    rw [Addr.add_lit, Addr.add_lit] at q0 q1 q2 q3 q4 q5
    exact ⟨b, off, la, lc, rfl, q0, q1, q2, q3, q4, q5, q6, q7⟩
end
theorem size_rw : (Try.prog.info? 62).map (·.size) = some 3 := by kernel_rfl
theorem loadVar_rw {w : World} {b : Nat} {c : Array Value} {t : TypeId} (h : w.heap[b]? = some (.cells c t (0, 0))) (hc : c.size = 3) : (loadVar 62 ⟨b, 0, none⟩).run Try.prog w = .ok (.agg c) w :=
  run_loadVar_row w b t _ _ _ _ h Try.underlying62 rfl (by rw [size_rw, hc])
theorem heap_new2 (w : World) (a b : Obj) : ((w.alloc a).alloc b).heap[w.heap.size + 1]? = some b := by
  have := heap_new (w.alloc a) b
  rw [World.size_alloc] at this
  exact this
theorem ref_any (x : Wt) (w : World) :
    Calls Try.prog 22 #[wv x] w fun r w' => r = .returned (wv x) ∧ Below w.heap.size w w' := by
  unfold wv
  go_enter Try.func22, Try.ntmps22
  go_wp2_with fail
  refine bodyPost_ret (results_row1 Try.results22 _ _ _ _ rfl (loadVar_rw (heap_new2 _ _ _) rfl)) rfl ⟨rfl, btr (below_alloc _ _) (below_alloc _ _)⟩
/-- few acts, of few cases -/
def Few (L : List Ac) : Prop := L.length ≤ 150 ∧ ∀ x ∈ L, x.l.length ≤ 50
def LgP (L : List Ac) (w : World) (r : Ending) (w' : World) : Prop := ∃ b, r = .returned (.bool b) ∧ (b = false → Few L) ∧ Below w.heap.size w w'
set_option maxRecDepth 100000 in
set_option maxHeartbeats 3200000 in
theorem large_any (oa : Option Addr) (L : List Ac) (c : Nat) (w : World) (hA : AAt w oa L) (hl : L.length ≤ maxLen) :
    Calls Try.prog 6 #[.slice oa L.length c] w fun r w' => LgP L w r w' := by
  have HA := hide hA
  unfold maxLen at hl
  clear hA
  go_enter Try.func6, Try.ntmps6
  go_wp2_with fail
  go_loopw [7] (fun i wr => ∃ k : Nat, k ≤ L.length ∧ i = .int .i64 k ∧ (∀ j x, j < k → L[j]? = some x → x.l.length ≤ 50) ∧ Below w.heap.size w wr) (fun i _ => L.length - (intOf i).toNat)
  case atStart => exact ⟨0, Nat.zero_le _, rfl, fun j _ hj => absurd hj (Nat.not_lt_zero _), Below.refl _ _⟩
  case round =>
    obtain ⟨k, hk, rfl, hf, hb⟩ := hrel
    have HF := hide hf
    have HB := hide hb
    clear hf hb
    by_cases hlt : k < L.length
    · have hlt' : (k : Int) < (L.length : Int) := by omega
      obtain ⟨x, hx⟩ : ∃ x, L[k]? = some x := ⟨_, List.getElem?_eq_getElem hlt⟩
      obtain ⟨b, off, la, lc, rfl, q0, q1, q2, q3, q4, q5, _, _⟩ := HA.out.below HB.out k x hx
      have HB2 := hide (btr HB.out (below_alloc wr (.cells #[.int .i64 x.what, .int .i64 x.g, .bool x.c.sd, .int .i64 x.c.ch, .int .i64 x.c.v, .slice la x.l.length lc] 35)))
      by_cases h5 : 50 < x.l.length
      · have h5' : (50 : Int) < (x.l.length : Int) := by omega
        clear hx
        go_wp2_with fail
        go_ret
        exact ⟨true, rfl, (fun h => by cases h), HB2.out⟩
      · have h5' : ¬ (50 : Int) < (x.l.length : Int) := by omega
        have HF2 : Hid (∀ j y, j < k + 1 → L[j]? = some y → y.l.length ≤ 50) := by
          intro j y hj hy
          by_cases e : j = k
          · subst e
            rw [hx] at hy
            cases hy
            omega
          · exact HF.out j y (by omega) hy
        clear hx
        go_wp2_with fail
        go_roundw
        case rel => exact ⟨k + 1, by omega, by go_num, HF2.out, HB2.out⟩
        case measure => simp [intOf]; omega
    · have hlt' : ¬ ((k : Int) < (L.length : Int)) := by omega
      obtain rfl : k = L.length := by omega
      by_cases h3 : 150 < L.length
      · have h3' : decide ((150 : Int) < (L.length : Int)) = true := decide_eq_true (by omega)
        go_wp2_with fail
        go_ret
        exact ⟨true, ret_bool rfl, (fun h => by cases h), HB.out⟩
      · have h3' : decide ((150 : Int) < (L.length : Int)) = false := decide_eq_false (by omega)
        go_wp2_with fail
        go_ret
        refine ⟨false, ret_bool rfl, fun _ => ⟨by omega, fun x hx => ?_⟩, HB.out⟩
        obtain ⟨j, hj⟩ := List.getElem?_of_mem hx
        exact HF.out j x (List.getElem?_eq_some_iff.1 hj).1 hj
end Fk
end Go.Proofs.Ytdcmlimglajpkaa
