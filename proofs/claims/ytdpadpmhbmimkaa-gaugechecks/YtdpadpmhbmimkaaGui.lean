/- Lists of events among a law's arguments, opened, for layer 14 (gauge). -/
import Derived.Test.YtdpadpmhbmimkaaGuh
import Derived.Deep.Slices
import Derived.ShutString
import Derived.ChangeOld
namespace Go.Proofs.Ytdpadpmhbmimkaa
open Go.ChangeShapes Go.WideShapes Go.ChangeAt Go.RowKit
namespace Gu
open En Ba

theorem cells_ev : Try.prog.cellsOf 31 = 8 := by kernel_rfl
theorem cells_bl : Try.prog.cellsOf 4 = 1 := by kernel_rfl
theorem fields8 : ∃ fs : Array Field, Try.prog.underlying 31 = some (.struct fs) ∧ fs.size = 8 ∧ (∃ f, fs[0]? = some f ∧ f.offset = 0 ∧ f.type = 3) ∧ (∃ f, fs[1]? = some f ∧ f.offset = 1 ∧ f.type = 3) ∧ (∃ f, fs[2]? = some f ∧ f.offset = 2 ∧ f.type = 3) ∧ (∃ f, fs[3]? = some f ∧ f.offset = 3 ∧ f.type = 3) ∧ (∃ f, fs[4]? = some f ∧ f.offset = 4 ∧ f.type = 3) ∧ (∃ f, fs[5]? = some f ∧ f.offset = 5 ∧ f.type = 3) ∧ (∃ f, fs[6]? = some f ∧ f.offset = 6 ∧ f.type = 4) ∧ (∃ f, fs[7]? = some f ∧ f.offset = 7 ∧ f.type = 4) :=
  ⟨_, Try.underlying31, rfl, ⟨_, rfl, rfl, rfl⟩, ⟨_, rfl, rfl, rfl⟩, ⟨_, rfl, rfl, rfl⟩, ⟨_, rfl, rfl, rfl⟩, ⟨_, rfl, rfl, rfl⟩, ⟨_, rfl, rfl, rfl⟩, ⟨_, rfl, rfl, rfl⟩, ⟨_, rfl, rfl, rfl⟩⟩
section
variable {H : Type} {enc : TypeId × Value → H} {w : World}
theorem ev_cells (n : Nat) (cs : List Value) (x : DataW H × List MemPlace) (h : DataW.trod enc Try.prog w 0 (fun _ => true) true n 31 cs = some x) : ∃ e : Ev, ∀ j, j < 8 → cs[j]? = (evc e)[j]? := by
  obtain ⟨fs, hu, hsz, F0, F1, F2, F3, F4, F5, F6, F7⟩ := fields8
  obtain ⟨xs, k, _, _, _, hxl, hff⟩ := DataW.trod_struct hu h
  rw [hsz] at hxl
  obtain ⟨f0, g0, o0, t0⟩ := F0
  have h0 := hff 0 f0 g0
  rw [o0, t0, cells_int] at h0
  obtain ⟨f1, g1, o1, t1⟩ := F1
  have h1 := hff 1 f1 g1
  rw [o1, t1, cells_int] at h1
  obtain ⟨f2, g2, o2, t2⟩ := F2
  have h2 := hff 2 f2 g2
  rw [o2, t2, cells_int] at h2
  obtain ⟨f3, g3, o3, t3⟩ := F3
  have h3 := hff 3 f3 g3
  rw [o3, t3, cells_int] at h3
  obtain ⟨f4, g4, o4, t4⟩ := F4
  have h4 := hff 4 f4 g4
  rw [o4, t4, cells_int] at h4
  obtain ⟨f5, g5, o5, t5⟩ := F5
  have h5 := hff 5 f5 g5
  rw [o5, t5, cells_int] at h5
  obtain ⟨f6, g6, o6, t6⟩ := F6
  have h6 := hff 6 f6 g6
  rw [o6, t6, cells_bl] at h6
  obtain ⟨f7, g7, o7, t7⟩ := F7
  have h7 := hff 7 f7 g7
  rw [o7, t7, cells_bl] at h7
  rw [List.getElem?_eq_getElem (by omega)] at h0 h1 h2 h3 h4 h5 h6 h7
  obtain ⟨a0, q0, _⟩ := DataW.trod_int Try.underlying3 h0
  obtain ⟨a1, q1, _⟩ := DataW.trod_int Try.underlying3 h1
  obtain ⟨a2, q2, _⟩ := DataW.trod_int Try.underlying3 h2
  obtain ⟨a3, q3, _⟩ := DataW.trod_int Try.underlying3 h3
  obtain ⟨a4, q4, _⟩ := DataW.trod_int Try.underlying3 h4
  obtain ⟨a5, q5, _⟩ := DataW.trod_int Try.underlying3 h5
  obtain ⟨a6, q6, _⟩ := DataW.trod_bool Try.underlying4 h6
  obtain ⟨a7, q7, _⟩ := DataW.trod_bool Try.underlying4 h7
  refine ⟨⟨a0, a1, a2, a3, a4, a5, a6, a7⟩, fun j hj => ?_⟩
  match j, hj with
  | 0, _ => exact one_of q0
  | 1, _ => exact one_of q1
  | 2, _ => exact one_of q2
  | 3, _ => exact one_of q3
  | 4, _ => exact one_of q4
  | 5, _ => exact one_of q5
  | 6, _ => exact one_of q6
  | 7, _ => exact one_of q7
theorem events_open {n : Nat} {oa : Option Addr} {len cap : Nat} {x : DataW H × List MemPlace} (h : DataW.trod enc Try.prog w 0 (fun _ => true) true n 22 [.slice oa len cap] = some x) : ∃ l : List Ev, l.length = len ∧ EsAt w oa l ∧ len ≤ cap ∧ cap ≤ maxLen := by
  rcases Go.Deep.open_slice Try.underlying22 h with ⟨hcs, _⟩ | ⟨a, len', cap', m', n', D, Pl, hcs, _, hl, hm, hmm, _, hel⟩
  · simp at hcs
    obtain ⟨rfl, rfl, rfl⟩ := hcs
    exact ⟨[], rfl, EsAt.nil _ _, Nat.le_refl _, Nat.zero_le _⟩
  · simp at hcs
    obtain ⟨rfl, rfl, rfl⟩ := hcs
    have hmc : m' = cap := by simpa using hmm
    subst hmc
    have key : ∀ i, i < len → ∃ e : Ev, ∀ j, j < 8 → w.cell? ((a.add (i * 8)).add j) = (evc e)[j]? := by
      intro i hi
      obtain ⟨cs', h1, h2⟩ := hel i (by omega)
      rw [cells_ev] at h1
      obtain ⟨_, _, hcell⟩ := World.cells?_some h1
      obtain ⟨e, he⟩ := ev_cells _ _ _ h2
      exact ⟨e, fun j hj => (hcell j hj).trans (he j hj)⟩
    have fam : ∃ f : Nat → Ev, ∀ i, i < len → ∀ j, j < 8 → w.cell? ((a.add (i * 8)).add j) = (evc (f i))[j]? := by
      refine ⟨fun i => if hi : i < len then Classical.choose (key i hi) else ev0, fun i hi => ?_⟩
      simp only [dif_pos hi]
      exact Classical.choose_spec (key i hi)
    obtain ⟨f, hf⟩ := fam
    refine ⟨(List.range len).map f, by simp, ?_, hl, hm⟩
    intro k c hk
    have hk2 : k < len := by
      have := (List.getElem?_eq_some_iff.1 hk).1
      simpa using this
    have hc : c = f k := by
      simp [hk2] at hk
      exact hk.symm
    subst hc
    have hspot : a.spot = none := by
      obtain ⟨v, hv⟩ := evc_some (f 0) 0 (by decide)
      have := hf 0 (by omega) 0 (by decide)
      rw [hv] at this
      have := World.cell?_spot this
      simpa [Addr.add] using this
    obtain ⟨b, off, spot⟩ := a
    simp at hspot
    subst hspot
    refine ⟨b, off, rfl, fun j hj => ?_⟩
    have := hf k hk2 j hj
    rw [Addr.add_lit, Addr.add_lit] at this
    exact this
theorem events_openC {n : Nat} {oa : Option Addr} {len cap : Nat} {x : DataW H × List MemPlace} (h : DataW.trod enc Try.prog w 0 (fun _ => true) true n 22 [.slice oa len cap] = some x) : ∃ l : List Ev, l.length = len ∧ (EsAt w oa l ∧ len ≤ cap) ∧ len ≤ cap ∧ cap ≤ maxLen := by
  obtain ⟨l, h1, h2, h3, h4⟩ := events_open h
  exact ⟨l, h1, ⟨h2, h3⟩, h3, h4⟩
end
end Gu
end Go.Proofs.Ytdpadpmhbmimkaa
