/- A log among a law's arguments, opened; the law's large(). -/
import Derived.Test.YtgfnafipfbajcaaUq3
namespace Go.Proofs.Ytgfnafipfbajcaa
open Go.ChangeShapes Go.WideShapes Go.ChangeAt Go.RowKit
namespace Qu
open Ba Rk

theorem cells_bl : Try.prog.cellsOf 4 = 1 := by kernel_rfl
theorem cells_ep : Try.prog.cellsOf 52 = 1 := by kernel_rfl
theorem cells_ti : Try.prog.cellsOf 53 = 1 := by kernel_rfl
theorem cells_le : Try.prog.cellsOf 22 = 1 := by kernel_rfl
theorem cells_ls : Try.prog.cellsOf 23 = 1 := by kernel_rfl
theorem cells_lr : Try.prog.cellsOf 24 = 1 := by kernel_rfl
theorem cells_ev : Try.prog.cellsOf 50 = 8 := by kernel_rfl
theorem cells_sm : Try.prog.cellsOf 55 = 2 := by kernel_rfl
theorem cells_rc : Try.prog.cellsOf 45 = 6 := by kernel_rfl
theorem cells_lg : Try.prog.cellsOf 26 = 3 := by kernel_rfl
theorem list2 : ∀ (cs : List Value) {y0 y1 : Value}, cs.length = 2 → cs[0]? = some y0 → cs[1]? = some y1 → cs = [y0, y1]
  | [_, _], _, _, _, h0, h1 => by
    simp at h0 h1
    rw [h0, h1]
theorem list3 : ∀ (cs : List Value) {y0 y1 y2 : Value}, cs.length = 3 → cs[0]? = some y0 → cs[1]? = some y1 → cs[2]? = some y2 → cs = [y0, y1, y2]
  | [_, _, _], _, _, _, _, h0, h1, h2 => by
    simp at h0 h1 h2
    rw [h0, h1, h2]
theorem list6 : ∀ (cs : List Value) {y0 y1 y2 y3 y4 y5 : Value}, cs.length = 6 → cs[0]? = some y0 → cs[1]? = some y1 → cs[2]? = some y2 → cs[3]? = some y3 → cs[4]? = some y4 → cs[5]? = some y5 → cs = [y0, y1, y2, y3, y4, y5]
  | [_, _, _, _, _, _], _, _, _, _, _, _, _, h0, h1, h2, h3, h4, h5 => by
    simp at h0 h1 h2 h3 h4 h5
    rw [h0, h1, h2, h3, h4, h5]
theorem list8 : ∀ (cs : List Value) {y0 y1 y2 y3 y4 y5 y6 y7 : Value}, cs.length = 8 → cs[0]? = some y0 → cs[1]? = some y1 → cs[2]? = some y2 → cs[3]? = some y3 → cs[4]? = some y4 → cs[5]? = some y5 → cs[6]? = some y6 → cs[7]? = some y7 → cs = [y0, y1, y2, y3, y4, y5, y6, y7]
  | [_, _, _, _, _, _, _, _], _, _, _, _, _, _, _, _, _, h0, h1, h2, h3, h4, h5, h6, h7 => by
    simp at h0 h1 h2 h3 h4 h5 h6 h7
    rw [h0, h1, h2, h3, h4, h5, h6, h7]
theorem fields_ev : ∃ fs : Array Field, Try.prog.underlying 50 = some (.struct fs) ∧ fs.size = 8 ∧ (∃ f, fs[0]? = some f ∧ f.offset = 0 ∧ f.type = 3) ∧ (∃ f, fs[1]? = some f ∧ f.offset = 1 ∧ f.type = 3) ∧ (∃ f, fs[2]? = some f ∧ f.offset = 2 ∧ f.type = 3) ∧ (∃ f, fs[3]? = some f ∧ f.offset = 3 ∧ f.type = 3) ∧ (∃ f, fs[4]? = some f ∧ f.offset = 4 ∧ f.type = 3) ∧ (∃ f, fs[5]? = some f ∧ f.offset = 5 ∧ f.type = 3) ∧ (∃ f, fs[6]? = some f ∧ f.offset = 6 ∧ f.type = 4) ∧ (∃ f, fs[7]? = some f ∧ f.offset = 7 ∧ f.type = 4) :=
  ⟨_, Try.underlying50, rfl, ⟨_, rfl, rfl, rfl⟩, ⟨_, rfl, rfl, rfl⟩, ⟨_, rfl, rfl, rfl⟩, ⟨_, rfl, rfl, rfl⟩, ⟨_, rfl, rfl, rfl⟩, ⟨_, rfl, rfl, rfl⟩, ⟨_, rfl, rfl, rfl⟩, ⟨_, rfl, rfl, rfl⟩⟩
theorem fields_rc : ∃ fs : Array Field, Try.prog.underlying 45 = some (.struct fs) ∧ fs.size = 6 ∧ (∃ f, fs[0]? = some f ∧ f.offset = 0 ∧ f.type = 3) ∧ (∃ f, fs[1]? = some f ∧ f.offset = 1 ∧ f.type = 3) ∧ (∃ f, fs[2]? = some f ∧ f.offset = 2 ∧ f.type = 3) ∧ (∃ f, fs[3]? = some f ∧ f.offset = 3 ∧ f.type = 4) ∧ (∃ f, fs[4]? = some f ∧ f.offset = 4 ∧ f.type = 3) ∧ (∃ f, fs[5]? = some f ∧ f.offset = 5 ∧ f.type = 3) :=
  ⟨_, Try.underlying45, rfl, ⟨_, rfl, rfl, rfl⟩, ⟨_, rfl, rfl, rfl⟩, ⟨_, rfl, rfl, rfl⟩, ⟨_, rfl, rfl, rfl⟩, ⟨_, rfl, rfl, rfl⟩, ⟨_, rfl, rfl, rfl⟩⟩
theorem fields_sm : ∃ fs : Array Field, Try.prog.underlying 55 = some (.struct fs) ∧ fs.size = 2 ∧ (∃ f, fs[0]? = some f ∧ f.offset = 0 ∧ f.type = 52) ∧ (∃ f, fs[1]? = some f ∧ f.offset = 1 ∧ f.type = 53) :=
  ⟨_, Try.underlying55, rfl, ⟨_, rfl, rfl, rfl⟩, ⟨_, rfl, rfl, rfl⟩⟩
theorem fields_lg : ∃ fs : Array Field, Try.prog.underlying 26 = some (.struct fs) ∧ fs.size = 3 ∧ (∃ f, fs[0]? = some f ∧ f.offset = 0 ∧ f.type = 22) ∧ (∃ f, fs[1]? = some f ∧ f.offset = 1 ∧ f.type = 23) ∧ (∃ f, fs[2]? = some f ∧ f.offset = 2 ∧ f.type = 24) :=
  ⟨_, Try.underlying26, rfl, ⟨_, rfl, rfl, rfl⟩, ⟨_, rfl, rfl, rfl⟩, ⟨_, rfl, rfl, rfl⟩⟩
theorem ev_el {H : Type} {enc : TypeId × Value → H} {w : World} (n : Nat) (cs : List Value) (x : DataW H × List MemPlace) (h : DataW.trod enc Try.prog w 0 (fun _ => true) true n 50 cs = some x) : ∃ z : Ex, cs = ecl z := by
  obtain ⟨fs, hu, hsz, ⟨f0, g0, o0, t0⟩, ⟨f1, g1, o1, t1⟩, ⟨f2, g2, o2, t2⟩, ⟨f3, g3, o3, t3⟩, ⟨f4, g4, o4, t4⟩, ⟨f5, g5, o5, t5⟩, ⟨f6, g6, o6, t6⟩, ⟨f7, g7, o7, t7⟩⟩ := fields_ev
  obtain ⟨xs, k, _, hxx, hcl, hxl, hff⟩ := DataW.trod_struct hu h
  rw [hsz] at hxl
  rw [cells_ev] at hcl
  have a0 := hff 0 f0 g0
  rw [o0, t0, cells_int, List.getElem?_eq_getElem (by omega)] at a0
  have a1 := hff 1 f1 g1
  rw [o1, t1, cells_int, List.getElem?_eq_getElem (by omega)] at a1
  have a2 := hff 2 f2 g2
  rw [o2, t2, cells_int, List.getElem?_eq_getElem (by omega)] at a2
  have a3 := hff 3 f3 g3
  rw [o3, t3, cells_int, List.getElem?_eq_getElem (by omega)] at a3
  have a4 := hff 4 f4 g4
  rw [o4, t4, cells_int, List.getElem?_eq_getElem (by omega)] at a4
  have a5 := hff 5 f5 g5
  rw [o5, t5, cells_int, List.getElem?_eq_getElem (by omega)] at a5
  have a6 := hff 6 f6 g6
  rw [o6, t6, cells_bl, List.getElem?_eq_getElem (by omega)] at a6
  have a7 := hff 7 f7 g7
  rw [o7, t7, cells_bl, List.getElem?_eq_getElem (by omega)] at a7
  obtain ⟨v0, e0, _⟩ := DataW.trod_int Try.underlying3 a0
  obtain ⟨v1, e1, _⟩ := DataW.trod_int Try.underlying3 a1
  obtain ⟨v2, e2, _⟩ := DataW.trod_int Try.underlying3 a2
  obtain ⟨v3, e3, _⟩ := DataW.trod_int Try.underlying3 a3
  obtain ⟨v4, e4, _⟩ := DataW.trod_int Try.underlying3 a4
  obtain ⟨v5, e5, _⟩ := DataW.trod_int Try.underlying3 a5
  obtain ⟨v6, e6, _⟩ := DataW.trod_bool Try.underlying4 a6
  obtain ⟨v7, e7, _⟩ := DataW.trod_bool Try.underlying4 a7
  have hcs := list8 cs (by omega) (one_of e0) (one_of e1) (one_of e2) (one_of e3) (one_of e4) (one_of e5) (one_of e6) (one_of e7)
  exact ⟨⟨v0, v1, v2, v3, v4, v5, v6, v7⟩, hcs⟩
theorem rc_el {H : Type} {enc : TypeId × Value → H} {w : World} (n : Nat) (cs : List Value) (x : DataW H × List MemPlace) (h : DataW.trod enc Try.prog w 0 (fun _ => true) true n 45 cs = some x) : ∃ z : Rd, cs = cl z := by
  obtain ⟨fs, hu, hsz, ⟨f0, g0, o0, t0⟩, ⟨f1, g1, o1, t1⟩, ⟨f2, g2, o2, t2⟩, ⟨f3, g3, o3, t3⟩, ⟨f4, g4, o4, t4⟩, ⟨f5, g5, o5, t5⟩⟩ := fields_rc
  obtain ⟨xs, k, _, hxx, hcl, hxl, hff⟩ := DataW.trod_struct hu h
  rw [hsz] at hxl
  rw [cells_rc] at hcl
  have a0 := hff 0 f0 g0
  rw [o0, t0, cells_int, List.getElem?_eq_getElem (by omega)] at a0
  have a1 := hff 1 f1 g1
  rw [o1, t1, cells_int, List.getElem?_eq_getElem (by omega)] at a1
  have a2 := hff 2 f2 g2
  rw [o2, t2, cells_int, List.getElem?_eq_getElem (by omega)] at a2
  have a3 := hff 3 f3 g3
  rw [o3, t3, cells_bl, List.getElem?_eq_getElem (by omega)] at a3
  have a4 := hff 4 f4 g4
  rw [o4, t4, cells_int, List.getElem?_eq_getElem (by omega)] at a4
  have a5 := hff 5 f5 g5
  rw [o5, t5, cells_int, List.getElem?_eq_getElem (by omega)] at a5
  obtain ⟨v0, e0, _⟩ := DataW.trod_int Try.underlying3 a0
  obtain ⟨v1, e1, _⟩ := DataW.trod_int Try.underlying3 a1
  obtain ⟨v2, e2, _⟩ := DataW.trod_int Try.underlying3 a2
  obtain ⟨v3, e3, _⟩ := DataW.trod_bool Try.underlying4 a3
  obtain ⟨v4, e4, _⟩ := DataW.trod_int Try.underlying3 a4
  obtain ⟨v5, e5, _⟩ := DataW.trod_int Try.underlying3 a5
  have hcs := list6 cs (by omega) (one_of e0) (one_of e1) (one_of e2) (one_of e3) (one_of e4) (one_of e5)
  exact ⟨⟨v0, v1, v2, v3, v4, v5⟩, hcs⟩
theorem sm_el {H : Type} {enc : TypeId × Value → H} {w : World} (n : Nat) (cs : List Value) (x : DataW H × List MemPlace) (h : DataW.trod enc Try.prog w 0 (fun _ => true) true n 55 cs = some x) : ∃ z : Sx, cs = [.int .u64 z.e, .slice z.oa z.c.length z.cap] ∧ At w z.oa z.c ∧ z.c.length ≤ maxLen ∧ 0 ≤ z.e ∧ z.e ≤ 18446744073709551615 := by
  obtain ⟨fs, hu, hsz, ⟨f0, g0, o0, t0⟩, ⟨f1, g1, o1, t1⟩⟩ := fields_sm
  obtain ⟨xs, k, _, hxx, hcl, hxl, hff⟩ := DataW.trod_struct hu h
  rw [hsz] at hxl
  rw [cells_sm] at hcl
  have a0 := hff 0 f0 g0
  rw [o0, t0, cells_ep, List.getElem?_eq_getElem (by omega)] at a0
  have a1 := hff 1 f1 g1
  rw [o1, t1, cells_ti, List.getElem?_eq_getElem (by omega)] at a1
  obtain ⟨v0, e0, _, w0⟩ := DataW.trod_int Try.underlying52 a0
  simp only [Lit.wf, Bool.and_eq_true, decide_eq_true_eq] at w0
  have s1 : ∃ oa len cap, (cs.drop 1).take 1 = [.slice oa len cap] := by
    rcases Go.Deep.open_slice Try.underlying53 a1 with ⟨hcs, _⟩ | ⟨a, len, cap, m, n', D, Pl, hcs, _⟩
    · exact ⟨_, _, _, hcs⟩
    · exact ⟨_, _, _, hcs⟩
  obtain ⟨oa1, len1, cap1, e1⟩ := s1
  rw [e1] at a1
  obtain ⟨l1, rfl, A1, C1, M1⟩ := ints_open a1
  have hcs := list2 cs (by omega) (one_of e0) (one_of e1)
  exact ⟨⟨v0, oa1, cap1, l1⟩, hcs, A1, Nat.le_trans C1 M1, w0.1, w0.2⟩
theorem evs_open {H : Type} {enc : TypeId × Value → H} {w : World} {n : Nat} {oa : Option Addr} {len cap : Nat} {x : DataW H × List MemPlace} (h : DataW.trod enc Try.prog w 0 (fun _ => true) true n 22 [.slice oa len cap] = some x) : ∃ l : List Ex, l.length = len ∧ EA w oa l ∧ len ≤ cap ∧ cap ≤ maxLen :=
  haveI : Inhabited Ex := ⟨⟨0, 0, 0, 0, 0, 0, false, false⟩⟩
  grecs_open Try.underlying22 (by decide) cells_ev ev_el h
theorem sts_open {H : Type} {enc : TypeId × Value → H} {w : World} {n : Nat} {oa : Option Addr} {len cap : Nat} {x : DataW H × List MemPlace} (h : DataW.trod enc Try.prog w 0 (fun _ => true) true n 23 [.slice oa len cap] = some x) : ∃ l : List Sx, l.length = len ∧ SA w oa l ∧ len ≤ cap ∧ cap ≤ maxLen :=
  haveI : Inhabited Sx := ⟨⟨0, none, 0, []⟩⟩
  grecs_open Try.underlying23 (by decide) cells_sm sm_el h
theorem rcs_open {H : Type} {enc : TypeId × Value → H} {w : World} {n : Nat} {oa : Option Addr} {len cap : Nat} {x : DataW H × List MemPlace} (h : DataW.trod enc Try.prog w 0 (fun _ => true) true n 24 [.slice oa len cap] = some x) : ∃ l : List Rd, l.length = len ∧ RO w oa l ∧ len ≤ cap ∧ cap ≤ maxLen :=
  haveI : Inhabited Rd := ⟨⟨0, 0, 0, false, 0, 0⟩⟩
  grecs_open Try.underlying24 (by decide) cells_rc rc_el h
/-- a log, its rows' addresses and capacities -/
structure Lx where
  oe : Option Addr
  os : Option Addr
  od : Option Addr
  ce : Nat
  cs : Nat
  cd : Nat
  es : List Ex
  ss : List Sx
  rs : List Rd
def lv_ (x : Lx) : Value := .agg #[.slice x.oe x.es.length x.ce, .slice x.os x.ss.length x.cs, .slice x.od x.rs.length x.cd]
def LX (w : World) (x : Lx) : Prop := LG w x.oe x.os x.od x.es x.ss x.rs ∧ (x.es.length ≤ x.ce ∧ x.ce ≤ maxLen) ∧ (x.ss.length ≤ x.cs ∧ x.cs ≤ maxLen) ∧ x.rs.length ≤ x.cd ∧ x.cd ≤ maxLen
theorem lg_el {H : Type} {enc : TypeId × Value → H} {w : World} (n : Nat) (cs : List Value) (x : DataW H × List MemPlace) (h : DataW.trod enc Try.prog w 0 (fun _ => true) true n 26 cs = some x) : ∃ z : Lx, cs = [.slice z.oe z.es.length z.ce, .slice z.os z.ss.length z.cs, .slice z.od z.rs.length z.cd] ∧ LX w z := by
  obtain ⟨fs, hu, hsz, ⟨f0, g0, o0, t0⟩, ⟨f1, g1, o1, t1⟩, ⟨f2, g2, o2, t2⟩⟩ := fields_lg
  obtain ⟨xs, k, _, hxx, hcl, hxl, hff⟩ := DataW.trod_struct hu h
  rw [hsz] at hxl
  rw [cells_lg] at hcl
  have a0 := hff 0 f0 g0
  rw [o0, t0, cells_le, List.getElem?_eq_getElem (by omega)] at a0
  have a1 := hff 1 f1 g1
  rw [o1, t1, cells_ls, List.getElem?_eq_getElem (by omega)] at a1
  have a2 := hff 2 f2 g2
  rw [o2, t2, cells_lr, List.getElem?_eq_getElem (by omega)] at a2
  have s0 : ∃ oa len cap, (cs.drop 0).take 1 = [.slice oa len cap] := by
    rcases Go.Deep.open_slice Try.underlying22 a0 with ⟨hcs, _⟩ | ⟨a, len, cap, m, n', D, Pl, hcs, _⟩
    · exact ⟨_, _, _, hcs⟩
    · exact ⟨_, _, _, hcs⟩
  obtain ⟨oa0, len0, cap0, e0⟩ := s0
  rw [e0] at a0
  obtain ⟨l0, rfl, A0, C0, M0⟩ := evs_open a0
  have s1 : ∃ oa len cap, (cs.drop 1).take 1 = [.slice oa len cap] := by
    rcases Go.Deep.open_slice Try.underlying23 a1 with ⟨hcs, _⟩ | ⟨a, len, cap, m, n', D, Pl, hcs, _⟩
    · exact ⟨_, _, _, hcs⟩
    · exact ⟨_, _, _, hcs⟩
  obtain ⟨oa1, len1, cap1, e1⟩ := s1
  rw [e1] at a1
  obtain ⟨l1, rfl, A1, C1, M1⟩ := sts_open a1
  have s2 : ∃ oa len cap, (cs.drop 2).take 1 = [.slice oa len cap] := by
    rcases Go.Deep.open_slice Try.underlying24 a2 with ⟨hcs, _⟩ | ⟨a, len, cap, m, n', D, Pl, hcs, _⟩
    · exact ⟨_, _, _, hcs⟩
    · exact ⟨_, _, _, hcs⟩
  obtain ⟨oa2, len2, cap2, e2⟩ := s2
  rw [e2] at a2
  obtain ⟨l2, rfl, A2, C2, M2⟩ := rcs_open a2
  have hcs := list3 cs (by omega) (one_of e0) (one_of e1) (one_of e2)
  exact ⟨⟨oa0, oa1, oa2, cap0, cap1, cap2, l0, l1, l2⟩, hcs, ⟨A0, A1, A2⟩, ⟨C0, M0⟩, ⟨C1, M1⟩, C2, M2⟩
theorem log_open {H : Type} {enc : TypeId × Value → H} {w : World} {n : Nat} {v : Value} {x : DataW H × List MemPlace} (h : DataW.trod enc Try.prog w 0 (fun _ => true) true n 26 v.cells.toList = some x) : ∃ z : Lx, v = lv_ z ∧ LX w z := by
  obtain ⟨z, hz, hl⟩ := lg_el n _ x h
  refine ⟨z, ?_, hl⟩
  have hc : v.cells = #[.slice z.oe z.es.length z.ce, .slice z.os z.ss.length z.cs, .slice z.od z.rs.length z.cd] := by
    apply Array.toList_inj.1
    rw [hz]
  cases v with
  | agg cs => unfold lv_; rw [← hc]; rfl
  | _ => have := congrArg Array.size hc; simp [Value.cells] at this
def lrg (le ls ld : Nat) : Bool := decide (500 < (le : Int)) || (decide (500 < (ls : Int)) || decide (500 < (ld : Int)))
theorem large_any (oe os od : Option Addr) (le ce ls cs ld cd : Nat) (w : World) :
    Calls Try.prog 6 #[.agg #[.slice oe le ce, .slice os ls cs, .slice od ld cd]] w fun r w' => r = .returned (.bool (lrg le ls ld)) ∧ Below w.heap.size w w' := by
  unfold lrg
  by_cases h1 : 500 < (le : Int)
  · rw [decide_eq_true h1]
    go_enter Try.func6, Try.ntmps6
    go_wp2_with fail
    go_ret
    exact ⟨ret_bool (by simp), below_alloc _ _⟩
  rw [decide_eq_false h1]
  by_cases h2 : 500 < (ls : Int)
  · rw [decide_eq_true h2]
    go_enter Try.func6, Try.ntmps6
    go_wp2_with fail
    go_ret
    exact ⟨ret_bool (by simp), below_alloc _ _⟩
  rw [decide_eq_false h2]
  by_cases h3 : 500 < (ld : Int)
  · rw [decide_eq_true h3]
    go_enter Try.func6, Try.ntmps6
    go_wp2_with fail
    go_ret
    exact ⟨ret_bool (by simp), below_alloc _ _⟩
  · rw [decide_eq_false h3]
    go_enter Try.func6, Try.ntmps6
    go_wp2_with fail
    go_ret
    exact ⟨ret_bool (by simp), below_alloc _ _⟩
end Qu
end Go.Proofs.Ytgfnafipfbajcaa
