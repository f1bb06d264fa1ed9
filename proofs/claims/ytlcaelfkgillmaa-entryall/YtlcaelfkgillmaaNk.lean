/- The laws' own exit(), over this seat's program; an event among a law's arguments, opened. -/
import Derived.Test.YtlcaelfkgillmaaNj
import Derived.Deep.Slices
import Derived.ShutString
import Derived.ChangeOld
namespace Go.Proofs.Ytlcaelfkgillmaa
open Go.ChangeShapes Go.WideShapes Go.ChangeAt Go.RowKit
namespace En
open Ba Re

def eX : Ev := ⟨11, 2, -1, -1, -1, -1, false, false⟩
theorem chk_eX : chk eX = 0 := by kernel_rfl
theorem enc_eX : bs (enc eX) = ⟨#[11, 3, 0, 0, 0, 0, 0]⟩ := by kernel_rfl
theorem dec_eX : dec (nbs ⟨#[11, 3, 0, 0, 0, 0, 0, 97]⟩) = some (eX, 7) := by kernel_rfl
theorem rest_eX : (⟨#[11, 3, 0, 0, 0, 0, 0, 97]⟩ : ByteArray).extract 7 8 = ⟨#[97]⟩ := by kernel_rfl
set_option maxRecDepth 100000 in
set_option maxHeartbeats 1600000 in
theorem exit_any (w : World) : Calls Try.prog 13 #[] w fun r w' => r = .returned (.bool true) ∧ Below w.heap.size w w' := by
  have EN := hide fun u => encode_ok eX u chk_eX
  have DE := hide fun u => decode_some ⟨#[11, 3, 0, 0, 0, 0, 0, 97]⟩ u eX 7 dec_eX
  rw [enc_eX] at EN
  rw [show (⟨#[11, 3, 0, 0, 0, 0, 0, 97]⟩ : ByteArray).size = 8 from rfl, rest_eX] at DE
  simp only [evv, evc, eX] at EN DE
  go_enter Try.func13, Try.ntmps13
  go_wp2_with fail
  refine (bare_any 11 2 _).mono ?_
  rintro r w1 ⟨rfl, b1⟩
  have B1 := hide b1
  clear b1
  go_wp2_with fail
  refine (EN.out _).mono ?_
  rintro r w2 ⟨rfl, b2⟩
  have B2 := hide (btr B1.out b2)
  clear b2
  go_wp2_with fail
  refine (DE.out _).mono ?_
  rintro r w3 ⟨rfl, b3⟩
  have B3 := hide (btr (btr B2.out b3) (below_alloc w3 (.cells #[.int .i64 11, .int .i64 2, .int .i64 (-1), .int .i64 (-1), .int .i64 (-1), .int .i64 (-1), .bool false, .bool false] 23)))
  clear b3
  go_wp2_with fail
  go_ret
  exact ⟨rfl, B3.out⟩
/-! ### events among a law's arguments -/
theorem cells_ev : Try.prog.cellsOf 23 = 8 := by kernel_rfl
theorem cells_bl : Try.prog.cellsOf 4 = 1 := by kernel_rfl
theorem fields8 : ∃ fs : Array Field, Try.prog.underlying 23 = some (.struct fs) ∧ fs.size = 8 ∧ (∃ f, fs[0]? = some f ∧ f.offset = 0 ∧ f.type = 3) ∧ (∃ f, fs[1]? = some f ∧ f.offset = 1 ∧ f.type = 3) ∧ (∃ f, fs[2]? = some f ∧ f.offset = 2 ∧ f.type = 3) ∧ (∃ f, fs[3]? = some f ∧ f.offset = 3 ∧ f.type = 3) ∧ (∃ f, fs[4]? = some f ∧ f.offset = 4 ∧ f.type = 3) ∧ (∃ f, fs[5]? = some f ∧ f.offset = 5 ∧ f.type = 3) ∧ (∃ f, fs[6]? = some f ∧ f.offset = 6 ∧ f.type = 4) ∧ (∃ f, fs[7]? = some f ∧ f.offset = 7 ∧ f.type = 4) :=
  ⟨_, Try.underlying23, rfl, ⟨_, rfl, rfl, rfl⟩, ⟨_, rfl, rfl, rfl⟩, ⟨_, rfl, rfl, rfl⟩, ⟨_, rfl, rfl, rfl⟩, ⟨_, rfl, rfl, rfl⟩, ⟨_, rfl, rfl, rfl⟩, ⟨_, rfl, rfl, rfl⟩, ⟨_, rfl, rfl, rfl⟩⟩
section
variable {H : Type} {enc : TypeId × Value → H} {w : World}
theorem ev_cells (n : Nat) (cs : List Value) (x : DataW H × List MemPlace) (h : DataW.trod enc Try.prog w 0 (fun _ => true) true n 23 cs = some x) : ∃ e : Ev, ∀ j, j < 8 → cs[j]? = (evc e)[j]? := by
  obtain ⟨fs, hu, hsz, F0, F1, F2, F3, F4, F5, F6, F7⟩ := fields8
  obtain ⟨xs, k, _, _, _, hxl, hff⟩ := DataW.trod_struct hu h
  rw [hsz] at hxl
  obtain ⟨f0, g0, o0, t0⟩ := F0
  have h0 := hff 0 f0 g0
  rw [o0, t0, cells_int] at h0
  obtain ⟨f1, g1, o1, t1⟩ := F1
  have h1 := hff 1 f1 g1
  rw [o1, t1, cells_int] at h1
  obtain ⟨f2, g2, o2, t2⟩ := F2
  have h2 := hff 2 f2 g2
  rw [o2, t2, cells_int] at h2
  obtain ⟨f3, g3, o3, t3⟩ := F3
  have h3 := hff 3 f3 g3
  rw [o3, t3, cells_int] at h3
  obtain ⟨f4, g4, o4, t4⟩ := F4
  have h4 := hff 4 f4 g4
  rw [o4, t4, cells_int] at h4
  obtain ⟨f5, g5, o5, t5⟩ := F5
  have h5 := hff 5 f5 g5
  rw [o5, t5, cells_int] at h5
  obtain ⟨f6, g6, o6, t6⟩ := F6
  have h6 := hff 6 f6 g6
  rw [o6, t6, cells_bl] at h6
  obtain ⟨f7, g7, o7, t7⟩ := F7
  have h7 := hff 7 f7 g7
  rw [o7, t7, cells_bl] at h7
  rw [List.getElem?_eq_getElem (by omega)] at h0 h1 h2 h3 h4 h5 h6 h7
  obtain ⟨a0, q0, _⟩ := DataW.trod_int Try.underlying3 h0
  obtain ⟨a1, q1, _⟩ := DataW.trod_int Try.underlying3 h1
  obtain ⟨a2, q2, _⟩ := DataW.trod_int Try.underlying3 h2
  obtain ⟨a3, q3, _⟩ := DataW.trod_int Try.underlying3 h3
  obtain ⟨a4, q4, _⟩ := DataW.trod_int Try.underlying3 h4
  obtain ⟨a5, q5, _⟩ := DataW.trod_int Try.underlying3 h5
  obtain ⟨a6, q6, _⟩ := DataW.trod_bool Try.underlying4 h6
  obtain ⟨a7, q7, _⟩ := DataW.trod_bool Try.underlying4 h7
  refine ⟨⟨a0, a1, a2, a3, a4, a5, a6, a7⟩, fun j hj => ?_⟩
  match j, hj with
  | 0, _ => exact one_of q0
  | 1, _ => exact one_of q1
  | 2, _ => exact one_of q2
  | 3, _ => exact one_of q3
  | 4, _ => exact one_of q4
  | 5, _ => exact one_of q5
  | 6, _ => exact one_of q6
  | 7, _ => exact one_of q7
theorem ev_open {n : Nat} {v : Value} {x : DataW H × List MemPlace} (h : DataW.trod enc Try.prog w 0 (fun _ => true) true n 23 v.cells.toList = some x) : ∃ e : Ev, v = evv e := by
  obtain ⟨fs, hu, hsz, _⟩ := fields8
  obtain ⟨_, _, _, _, hcl, _⟩ := DataW.trod_struct hu h
  rw [cells_ev] at hcl
  obtain ⟨e, hz⟩ := ev_cells _ _ _ h
  refine ⟨e, ?_⟩
  have hc : v.cells = evc e := by
    apply Array.toList_inj.1
    apply List.ext_getElem?
    intro j
    by_cases hj : j < 8
    · rw [hz j hj, Array.getElem?_toList]
    · rw [List.getElem?_eq_none (by omega), List.getElem?_eq_none (by show (evc e).toList.length ≤ j; simp [evc]; omega)]
  cases v with
  | agg cs => unfold evv; rw [← hc]; rfl
  | _ => have := congrArg Array.size hc; simp [Value.cells, evc] at this
end
end En
end Go.Proofs.Ytlcaelfkgillmaa
