/- Events in memory; the document's gauge: Made, Serves, over this seat's program. -/
import Derived.Test.YtdpadpmhbmimkaaGu1
import Derived.Deep.RegionHeld3
namespace Go.Proofs.Ytdpadpmhbmimkaa
open Go.ChangeShapes Go.WideShapes Go.ChangeAt Go.RowKit
namespace Gu
open En Ba

/-- events lie in memory -/
def EsAt (w : World) (oa : Option Addr) (l : List Ev) : Prop :=
  ∀ k e, l[k]? = some e → ∃ b off, oa = some ⟨b, off, none⟩ ∧ ∀ j, j < 8 → w.cell? ⟨b, off + k * 8 + j, none⟩ = (En.evc e)[j]?
theorem EsAt.nil (w : World) (oa : Option Addr) : EsAt w oa [] := fun _ _ h => by simp at h
theorem evc_some (e : Ev) (j : Nat) (h : j < 8) : ∃ v, (En.evc e)[j]? = some v := ⟨_, Array.getElem?_eq_getElem h⟩
theorem EsAt.below {w w' : World} {oa : Option Addr} {l : List Ev} (h : EsAt w oa l) (hb : Below w.heap.size w w') : EsAt w' oa l := by
  intro k e hk
  obtain ⟨b, off, he, hc⟩ := h k e hk
  refine ⟨b, off, he, fun j hj => ?_⟩
  obtain ⟨v, hv⟩ := evc_some e j hj
  have := hc j hj
  rw [hv] at this ⊢
  exact (hb.cell (World.block_lt_of_cell? w _ this)).trans this
theorem EsAt.read {w : World} {b off : Nat} {l : List Ev} {k : Nat} {e : Ev} (h : EsAt w (some ⟨b, off, none⟩) l) (hk : l[k]? = some e) : w.cell? ⟨b, off + k * 8, none⟩ = some (.int .i64 e.k) ∧ w.cell? ⟨b, off + k * 8 + 1, none⟩ = some (.int .i64 e.g) ∧ w.cell? ⟨b, off + k * 8 + 2, none⟩ = some (.int .i64 e.c) ∧ w.cell? ⟨b, off + k * 8 + 3, none⟩ = some (.int .i64 e.a) ∧ w.cell? ⟨b, off + k * 8 + 4, none⟩ = some (.int .i64 e.v) ∧ w.cell? ⟨b, off + k * 8 + 5, none⟩ = some (.int .i64 e.m) ∧ w.cell? ⟨b, off + k * 8 + 6, none⟩ = some (.bool e.s) ∧ w.cell? ⟨b, off + k * 8 + 7, none⟩ = some (.bool e.o) := by
  obtain ⟨b', off', he, hc⟩ := h k e hk
  cases he
  exact ⟨hc 0 (by decide), hc 1 (by decide), hc 2 (by decide), hc 3 (by decide), hc 4 (by decide), hc 5 (by decide), hc 6 (by decide), hc 7 (by decide)⟩
theorem rserves_any (e : Ev) (w : World) :
    Calls Try.prog 22 #[evv e] w fun r w' => r = .returned (.bool (serves e)) ∧ Below w.heap.size w w' := by
  unfold evv evc serves
  obtain ⟨k, g, c, a, v, m, s, o⟩ := e
  simp only
  cases h3 : decide (k = 3) <;> cases h4 : decide (k = 4) <;> cases hm : decide (0 ≤ m) <;>
    (have a3 := h3
     have a4 := h4
     have am := hm
     simp only [decide_eq_true_eq, decide_eq_false_iff_not] at a3 a4 am
     first
     | (exfalso; omega)
     | (go_enter Try.func22, Try.ntmps22
        go_wp2_with fail
        go_ret
        exact ⟨rfl, below_alloc _ _⟩))
def mk (p : List Ev) : Nat := p.countP fun x => decide (x.k = 2)
theorem mk_take {l : List Ev} {k : Nat} {e : Ev} (h : l[k]? = some e) : mk (l.take (k + 1)) = mk (l.take k) + if e.k = 2 then 1 else 0 := by
  rw [List.take_add_one, h]
  by_cases q : e.k = 2 <;> simp [mk, q]
theorem mk_le (l : List Ev) (k : Nat) : mk (l.take k) ≤ k := by
  have := List.countP_le_length (p := fun x : Ev => decide (x.k = 2)) (l := l.take k)
  simp only [List.length_take] at this
  unfold mk; omega
set_option maxHeartbeats 1600000 in
theorem rmade_any (oa : Option Addr) (l : List Ev) (c i : Nat) (e : Ev) (w : World) (hA : EsAt w oa l) (hi : l[i]? = some e) (hl : l.length ≤ 100000) (hc : l.length ≤ c) :
    Calls Try.prog 18 #[.slice oa l.length c, .int .i64 i] w fun r w' => r = .returned (.bool (made (l.take i) e)) ∧ Below w.heap.size w w' := by
  have HA := hide hA
  have hil : i < l.length := (List.getElem?_eq_some_iff.1 hi).1
  obtain ⟨b1, o1, rfl, _⟩ := hA i e hi
  clear hA
  obtain ⟨N, hN⟩ : ∃ N, l.length = N := ⟨_, rfl⟩
  rw [hN] at hl hc hil ⊢
  have HI := hide hi
  have HN := hide hN
  clear hi hN
  have h1 : (i : Int) < (N : Int) := by omega
  have h2 : (i : Int) ≤ (c : Int) := by omega
  have h3 : i ≤ c := by omega
  have MD : Hid (made (l.take i) e = if e.k = 2 then decide (e.c = (mk (l.take i) : Nat)) else decide (e.c < (mk (l.take i) : Nat))) := rfl
  rw [MD.out]
  clear MD
  go_enter Try.func18, Try.ntmps18
  go_wp2_with fail
  go_loopw [5, 12] (fun n s wr => ∃ k : Nat, k ≤ i ∧ s = .int .i64 (k : Int) ∧ n = .int .i64 ((mk (l.take k) : Nat) : Int) ∧ Below w.heap.size w wr) (fun _ s _ => i - (intOf s).toNat)
  case atStart => exact ⟨0, Nat.zero_le _, rfl, rfl, Below.refl _ _⟩
  case round =>
    obtain ⟨k, hk, rfl, rfl, hb⟩ := hrel
    have HB := hide hb
    clear hb
    have ML := hide (mk_le l k)
    by_cases hlt : k < i
    · have hlt' : (k : Int) < (i : Int) := by omega
      obtain ⟨x, hx⟩ : ∃ x, l[k]? = some x := ⟨_, List.getElem?_eq_getElem (by have := HN.out; omega)⟩
      obtain ⟨p0, p1, p2, p3, p4, p5, p6, p7⟩ := (HA.out.below HB.out).read hx
      have MT := hide (mk_take hx)
      clear hx
      obtain ⟨n0, hn0⟩ : ∃ n0, mk (l.take k) = n0 := ⟨_, rfl⟩
      rw [hn0] at MT ML ⊢
      have hn1 : (n0 : Int) ≤ 100000 := by have := ML.out; omega
      clear hn0
      by_cases h2 : x.k = 2
      · have hd : (x.k == 2) = true := by simp [h2]
        have M1 : Hid (mk (l.take (k + 1)) = n0 + 1) := by show _ = _; rw [MT.out, if_pos h2]
        clear MT
        go_wp2_with fail
        go_roundw
        case rel => exact ⟨k + 1, by omega, by go_num, by rw [M1.out]; go_num, btr HB.out (below_alloc _ _)⟩
        case measure => simp [intOf]; omega
      · have hd : (x.k == 2) = false := by simp [h2]
        have M1 : Hid (mk (l.take (k + 1)) = n0) := by show _ = _; rw [MT.out, if_neg h2]; rfl
        clear MT
        go_wp2_with fail
        go_roundw
        case rel => exact ⟨k + 1, by omega, by go_num, by rw [M1.out], btr HB.out (below_alloc _ _)⟩
        case measure => simp [intOf]; omega
    · have hki : k = i := by omega
      subst hki
      have hlt' : ¬ ((k : Int) < (k : Int)) := by omega
      obtain ⟨p0, p1, p2, p3, p4, p5, p6, p7⟩ := (HA.out.below HB.out).read HI.out
      by_cases h2 : e.k = 2
      · have hd : (e.k == 2) = true := by simp [h2]
        go_wp2_with fail
        go_ret
        exact ⟨ret_bool (by first | rfl | simp | (rw [Bool.eq_iff_iff]; simp)), HB.out⟩
      · have hd : (e.k == 2) = false := by simp [h2]
        go_wp2_with fail
        go_ret
        exact ⟨ret_bool (by first | rfl | simp | (rw [Bool.eq_iff_iff]; simp)), HB.out⟩
end Gu
end Go.Proofs.Ytdpadpmhbmimkaa
