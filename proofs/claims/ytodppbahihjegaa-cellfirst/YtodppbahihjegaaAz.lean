/- Layer 18's CellFirst: the two rows' types; what telling does to the clocks. -/
import Derived.Test.YtodppbahihjegaaAy
import Derived.Test.YtodppbahihjegaaRm
import Derived.Maps.AppendAt
namespace Go.Proofs.Ytodppbahihjegaa
open Go.ChangeShapes Go.WideShapes Go.ChangeAt Go.RowKit
namespace Ce
open Ck
open Ba (KF Bd Nw)

theorem info_acc : (Try.prog.info? 37).map (fun i => (i.zero, i.size, i.bytes)) = some (some (.agg #[.int .i64 0, .int .i64 0, .bool false, .bool false]), 4, 24) := by kernel_rfl
theorem info_boo : (Try.prog.info? 4).map (fun i => (i.zero, i.size, i.bytes)) = some (some (.bool false), 1, 1) := by kernel_rfl
/-- four cells of a new block -/
theorem cell_four (w : World) (a b c d : Value) (t : TypeId) : ∀ j u, [a, b, c, d][j]? = some u → (w.alloc (.cells #[a, b, c, d] t)).cell? ((⟨w.heap.size, 0, none⟩ : Addr).add j) = some u := by
  intro j u hj
  match j, hj with
  | 0, hj | 1, hj | 2, hj | 3, hj =>
    simp at hj
    subst hj
    simp [Addr.add]
theorem one_four (d : Ax) : ∀ u ∈ dV d, u.oneCell' = true := by
  intro u hu
  simp [dV] at hu
  rcases hu with rfl | rfl | rfl <;> rfl
theorem one_bool (b : Bool) : ∀ u ∈ [Value.bool b], u.oneCell' = true := by
  intro u hu
  rw [List.mem_singleton] at hu
  rw [hu]; rfl
theorem FW.same {w wr : World} {X K : Nat} {vD vW : Value} {C C' : Nat → Nat → Int} {D : List Ax} {st : Cst} (h : FW w X K vD vW C D st wr) (e : ∀ g, g < 4 → ∀ t, t < 256 → C' g t = C g t) : FW w X K vD vW C' D st wr :=
  ⟨h.cw, fun g hg k hk => by rw [e g hg k hk]; exact h.ra g hg k hk, h.od, h.ow, h.kb, h.nd, h.nw, h.dw, h.ky⟩
/-- a Join of one of the four -/
theorem FW.join {w wr w1 : World} {X K : Nat} {vD vW : Value} {C : Nat → Nat → Int} {D : List Ax} {st : Cst} (h : FW w X K vD vW C D st wr) {T : Nat} {H : Nat → Int} {o : Obj} (j : RJ (wr.alloc o) K (T * 256) H w1) : FW w X K vD vW (fun g => if g = T then H else C g) D st w1 := by
  have h1 := h.below (Ba.below_alloc wr o)
  obtain ⟨j0, j1, j2, j3, j4, j5, j6, j7⟩ := j
  refine h1.clk ⟨j1, j2, j3, by rw [j4]; exact Nat.le_refl _, fun k _ hk => j5 k hk⟩ (fun g hg => ?_)
  show Ck.RA w1 K (g * 256) (if g = T then H else C g)
  by_cases e : g = T
  · rw [if_pos e, e]; exact j0
  · rw [if_neg e]
    exact fun k hk => ⟨(j6 _ (by omega)).trans (h1.ra g hg k hk).1, (j7 _).trans (h1.ra g hg k hk).2⟩
theorem FW.set {w wr : World} {X K : Nat} {vD vW : Value} {C C' : Nat → Nat → Int} {D : List Ax} {st : Cst} (h : FW w X K vD vW C D st wr) {G : Nat} (hG : G < 4) {t : Nat} (ht : t < 256) (v : Int) (hC : ∀ g, g < 4 → ∀ j, j < 256 → C' g j = if g = G ∧ j = t then v else C g j) : FW w X K vD vW C' D st (wr.setCell ⟨K, G * 256 + t, none⟩ (.int .i64 v)) :=
  h.clk ((KF.refl (fun k => k = K) wr).set (q := K) rfl _ _) (ra_set4 h.ra hG ht v hC)
/-- G tells T: a Join, then a Tick -/
theorem FW.tell {w wr w1 : World} {X K : Nat} {vD vW : Value} {C : Nat → Nat → Int} {D : List Ax} {st : Cst} (h : FW w X K vD vW C D st wr) {G T : Nat} (hG : G < 4) {o : Obj} (j : RJ (wr.alloc o) K (T * 256) (jf (C T) (C G) 256) w1) (q : Nat) :
    Ck.RA (w1.drewN q) K (G * 256) (C G) ∧ FW w X K vD vW (tellC C G T) D st (((w1.drewN q).setCell ⟨K, G * 256 + G, none⟩ (.int .i64 (C G G + 1))).drew) := by
  have f1 := (h.join j).below (bdrew w1 q)
  have e1 : ∀ t, t < 256 → (if G = T then jf (C T) (C G) 256 else C G) t = C G t := by
    intro t ht
    by_cases e : G = T
    · subst e; simp [jf]
    · rw [if_neg e]
  refine ⟨fun k hk => ?_, ?_⟩
  · have := f1.ra G hG k hk
    simp only [e1 k hk] at this
    exact this
  · refine (f1.set hG (t := G) (by omega) (C G G + 1) (C' := tellC C G T) (fun g hg t ht => ?_)).below (bdrew _ 1)
    unfold tellC
    by_cases e : g = G ∧ t = G
    · rw [if_pos e, if_pos e]
    · rw [if_neg e, if_neg e]
      by_cases e2 : g = T
      · rw [if_pos e2, if_pos e2]; simp [jf, ht]
      · rw [if_neg e2, if_neg e2]
/-- behind the Join: what the region holds -/
theorem FW.jkeep {w wr w1 : World} {X K A : Nat} {vD vW : Value} {C : Nat → Nat → Int} {D : List Ax} {st : Cst} (h : FW w X K vD vW C D st wr) {G T : Nat} (hG : G < 4) {o b : Obj} (j : RJ (wr.alloc o) K (T * 256) (jf (C T) (C G) 256) w1) (hA : wr.heap[A]? = some b) (hK : K < A) : w1.heap[A]? = some b ∧ (loadCellsFrom ⟨K, G * 256, none⟩ 0 256 #[]).run Try.prog w1 = .ok (Ck.ra (C G)) w1 := by
  refine ⟨?_, ld_ref (h.tell hG j 0).1⟩
  rw [j.2.2.2.2.2.1 A (by omega), (Ba.below_alloc wr o).block A (heap_lt' hA)]
  exact hA
end Ce
end Go.Proofs.Ytodppbahihjegaa
