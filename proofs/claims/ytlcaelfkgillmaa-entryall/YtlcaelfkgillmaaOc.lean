/- The laws' own Events, over this seat's program; lists of events among a law's arguments, opened. -/
import Derived.Test.YtlcaelfkgillmaaOb
import Derived.Deep.RegionHeld3
namespace Go.Proofs.Ytlcaelfkgillmaa
open Go.ChangeShapes Go.WideShapes Go.ChangeAt Go.RowKit
namespace En
open Ba Re

set_option maxRecDepth 100000 in
set_option maxHeartbeats 3200000 in
theorem events_same (oa ob : Option Addr) (l : List Ev) (c d : Nat) (w : World) (hA : EsAt w oa l) (hB : EsAt w ob l) (hl : l.length ≤ 1000000) :
    Calls Try.prog 20 #[.slice oa l.length c, .slice ob l.length d] w fun r w' => r = .returned (.bool true) ∧ Below w.heap.size w w' := by
  have HA := hide hA
  have HB := hide hB
  clear hA hB
  go_enter Try.func20, Try.ntmps20
  go_wp2_with fail
  go_loopw [8] (fun i wr => ∃ k : Nat, k ≤ l.length ∧ i = .int .i64 k ∧ Below w.heap.size w wr) (fun i _ => l.length - (intOf i).toNat)
  case atStart => exact ⟨0, Nat.zero_le _, rfl, Below.refl _ _⟩
  case round =>
    obtain ⟨k, hk, rfl, hb⟩ := hrel
    have HBB := hide hb
    clear hb
    by_cases hlt : k < l.length
    · have hlt' : (k : Int) < (l.length : Int) := by omega
      have hg : decide ((l.length : Int) ≤ (k : Int)) = false := by simp; omega
      have hgn : decide (l.length ≤ k) = false := by simp; omega
      obtain ⟨x, hx⟩ : ∃ x, l[k]? = some x := ⟨_, List.getElem?_eq_getElem hlt⟩
      obtain ⟨b1, o1, rfl, _⟩ := HA.out k x hx
      obtain ⟨b2, o2, rfl, _⟩ := HB.out k x hx
      obtain ⟨p0, p1, p2, p3, p4, p5, p6, p7⟩ := (HA.out.below HBB.out).read hx
      obtain ⟨q0, q1, q2, q3, q4, q5, q6, q7⟩ := (HB.out.below HBB.out).read hx
      have ee := fun u => eqE x x u
      rw [evb_self] at ee
      unfold evv evc at ee
      clear hx
      go_wp2_with fail
      go_region_held3 (fun w' => w'.cell? ⟨b1, o1 + k * 8, none⟩ = some (.int .i64 x.k) ∧ w'.cell? ⟨b1, o1 + k * 8 + 1, none⟩ = some (.int .i64 x.g) ∧ w'.cell? ⟨b1, o1 + k * 8 + 2, none⟩ = some (.int .i64 x.c) ∧ w'.cell? ⟨b1, o1 + k * 8 + 3, none⟩ = some (.int .i64 x.a) ∧ w'.cell? ⟨b1, o1 + k * 8 + 4, none⟩ = some (.int .i64 x.v) ∧ w'.cell? ⟨b1, o1 + k * 8 + 5, none⟩ = some (.int .i64 x.m) ∧ w'.cell? ⟨b1, o1 + k * 8 + 6, none⟩ = some (.bool x.s) ∧ w'.cell? ⟨b1, o1 + k * 8 + 7, none⟩ = some (.bool x.o) ∧ w'.cell? ⟨b2, o2 + k * 8, none⟩ = some (.int .i64 x.k) ∧ w'.cell? ⟨b2, o2 + k * 8 + 1, none⟩ = some (.int .i64 x.g) ∧ w'.cell? ⟨b2, o2 + k * 8 + 2, none⟩ = some (.int .i64 x.c) ∧ w'.cell? ⟨b2, o2 + k * 8 + 3, none⟩ = some (.int .i64 x.a) ∧ w'.cell? ⟨b2, o2 + k * 8 + 4, none⟩ = some (.int .i64 x.v) ∧ w'.cell? ⟨b2, o2 + k * 8 + 5, none⟩ = some (.int .i64 x.m) ∧ w'.cell? ⟨b2, o2 + k * 8 + 6, none⟩ = some (.bool x.s) ∧ w'.cell? ⟨b2, o2 + k * 8 + 7, none⟩ = some (.bool x.o))
        (first
          | with_reducible assumption
          | go_keep)
        (fail)
      go_wp2_with fail
      go_roundw
      case rel => exact ⟨k + 1, by omega, by go_num, btr HBB.out (bdrew1 _)⟩
      case measure => simp [intOf]; omega
    · have hlt' : ¬ ((k : Int) < (l.length : Int)) := by omega
      go_wp2_with fail
      go_ret
      exact ⟨ret_bool (by simp), HBB.out⟩
section
variable {H : Type} {enc : TypeId × Value → H} {w : World}
theorem events_open {n : Nat} {oa : Option Addr} {len cap : Nat} {x : DataW H × List MemPlace} (h : DataW.trod enc Try.prog w 0 (fun _ => true) true n 40 [.slice oa len cap] = some x) : ∃ l : List Ev, l.length = len ∧ EsAt w oa l ∧ len ≤ cap ∧ cap ≤ maxLen := by
  rcases Go.Deep.open_slice Try.underlying40 h with ⟨hcs, _⟩ | ⟨a, len', cap', m', n', D, Pl, hcs, _, hl, hm, hmm, _, hel⟩
  · simp at hcs
    obtain ⟨rfl, rfl, rfl⟩ := hcs
    exact ⟨[], rfl, EsAt.nil _ _, Nat.le_refl _, Nat.zero_le _⟩
  · simp at hcs
    obtain ⟨rfl, rfl, rfl⟩ := hcs
    have hmc : m' = cap := by simpa using hmm
    subst hmc
    have key : ∀ i, i < len → ∃ e : Ev, ∀ j, j < 8 → w.cell? ((a.add (i * 8)).add j) = (evc e)[j]? := by
      intro i hi
      obtain ⟨cs', h1, h2⟩ := hel i (by omega)
      rw [cells_ev] at h1
      obtain ⟨_, _, hcell⟩ := World.cells?_some h1
      obtain ⟨e, he⟩ := ev_cells _ _ _ h2
      exact ⟨e, fun j hj => (hcell j hj).trans (he j hj)⟩
    have fam : ∃ f : Nat → Ev, ∀ i, i < len → ∀ j, j < 8 → w.cell? ((a.add (i * 8)).add j) = (evc (f i))[j]? := by
      refine ⟨fun i => if hi : i < len then Classical.choose (key i hi) else e0, fun i hi => ?_⟩
      simp only [dif_pos hi]
      exact Classical.choose_spec (key i hi)
    obtain ⟨f, hf⟩ := fam
    refine ⟨(List.range len).map f, by simp, ?_, hl, hm⟩
    intro k c hk
    have hk2 : k < len := by
      have := (List.getElem?_eq_some_iff.1 hk).1
      simpa using this
    have hc : c = f k := by
      simp [hk2] at hk
      exact hk.symm
    subst hc
    have hspot : a.spot = none := by
      obtain ⟨v, hv⟩ := evc_some (f 0) 0 (by decide)
      have := hf 0 (by omega) 0 (by decide)
      rw [hv] at this
      have := World.cell?_spot this
      simpa [Addr.add] using this
    obtain ⟨b, off, spot⟩ := a
    simp at hspot
    subst hspot
    refine ⟨b, off, rfl, fun j hj => ?_⟩
    have := hf k hk2 j hj
    rw [Addr.add_lit, Addr.add_lit] at this
    exact this
end
end En
end Go.Proofs.Ytlcaelfkgillmaa
