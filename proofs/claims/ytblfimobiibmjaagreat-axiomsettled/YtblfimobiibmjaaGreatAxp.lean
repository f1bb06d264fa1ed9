import Derived.Test.YtblfimobiibmjaaGreatZjAh19
import Derived.Test.YtblfimobiibmjaaGreatAxo
import Derived.Deep.RegionHeld3
namespace Go.Proofs.YtblfimobiibmjaaGreat
open Go.ChangeShapes Go.WideShapes Go.ChangeAt Go.RowKit
namespace Ax
open En Gu Eg Ba
set_option maxRecDepth 100000 in
set_option maxHeartbeats 3200000 in
theorem set1_any (w : World) (N0 P R W b D E F : Nat) (oa : Option Addr) (l : List Ev) (c x cut : Nat) (g : Int) (T : TW w N0 P R W b oa l) (tk : Tok l) (hl : l.length ≤ 1000) (hx : x < l.length) (hv : live l x = true)
 (hD : w.heap[D]? = some (.cells #[.pointer (some ⟨P, 0, none⟩), .slice oa l.length c, .slice (some ⟨b, 0, none⟩) l.length l.length] 83 (0, 0))) (hE : w.cell? ⟨E, 0, none⟩ = some (.int .i64 g)) (hF : w.cell? ⟨F, 0, none⟩ = some (.int .i64 (cut : Int))) :
 Calls Tryz.prog 95 #[.int .i64 (x : Int), .pointer (some ⟨D, 0, none⟩), .pointer (some ⟨E, 0, none⟩), .pointer (some ⟨F, 0, none⟩)] w fun r w' => r = .returned (.bool (decide (cut < knF (hA l) l x g))) ∧ Below w.heap.size w w' := by
 have KN := hide (fun u (bb : Below w.heap.size w u) => knows_any u N0 P R W b oa l c x g (T.below bb) tk hl hx hv)
 have d0 := cell_of hD 0
 have d1 := cell_of hD 1
 have d2 := cell_of hD 2
 simp at d0 d1 d2
 obtain ⟨z, hz⟩ : ∃ z, knF (hA l) l x g = z := ⟨_, rfl⟩
 rw [hz] at KN ⊢
 generalize l.length = n at *
 clear T hD hz hx hv hl
 by_cases q : cut < z
 ·have q' : (z : Int) > (cut : Int) := by omega
  have Q := hide q
  clear q
  go_enter Tryz.func95, Tryz.ntmps95
  go_upto_region 1 with fail
  go_region_held3 (fun w' => w'.cell? ⟨D, 0, none⟩ = some (.pointer (some ⟨P, 0, none⟩)) ∧ w'.cell? ⟨D, 1, none⟩ = some (.slice oa n c) ∧ w'.cell? ⟨D, 2, none⟩ = some (.slice (some ⟨b, 0, none⟩) n n) ∧ w'.cell? ⟨E, 0, none⟩ = some (.int .i64 g) ∧ w'.cell? ⟨F, 0, none⟩ = some (.int .i64 (cut : Int)))
   (first | (go_keep; done) | exact ⟨d0, d1, d2, hE, hF⟩ | exact ⟨Mx.cellB (w := w.drew) d0 b1, Mx.cellB (w := w.drew) d1 b1, Mx.cellB (w := w.drew) d2 b1, Mx.cellB (w := w.drew) hE b1, Mx.cellB (w := w.drew) hF b1⟩)
   ((go_at_call 53; refine (KN.out _ (bdrew1 _)).mono ?_; rintro r w1 ⟨rfl, b1⟩))
  have B1 := hide (btr (bdrew1 _) b1)
  clear b1
  go_wp2_with fail
  go_ret
  exact ⟨by rw [decide_eq_true Q.out]; rfl, B1.out⟩
 ·have q' : ¬ ((z : Int) > (cut : Int)) := by omega
  have Q := hide q
  clear q
  go_enter Tryz.func95, Tryz.ntmps95
  go_upto_region 1 with fail
  go_region_held3 (fun w' => w'.cell? ⟨D, 0, none⟩ = some (.pointer (some ⟨P, 0, none⟩)) ∧ w'.cell? ⟨D, 1, none⟩ = some (.slice oa n c) ∧ w'.cell? ⟨D, 2, none⟩ = some (.slice (some ⟨b, 0, none⟩) n n) ∧ w'.cell? ⟨E, 0, none⟩ = some (.int .i64 g) ∧ w'.cell? ⟨F, 0, none⟩ = some (.int .i64 (cut : Int)))
   (first | (go_keep; done) | exact ⟨d0, d1, d2, hE, hF⟩ | exact ⟨Mx.cellB (w := w.drew) d0 b1, Mx.cellB (w := w.drew) d1 b1, Mx.cellB (w := w.drew) d2 b1, Mx.cellB (w := w.drew) hE b1, Mx.cellB (w := w.drew) hF b1⟩)
   ((go_at_call 53; refine (KN.out _ (bdrew1 _)).mono ?_; rintro r w1 ⟨rfl, b1⟩))
  have B1 := hide (btr (bdrew1 _) b1)
  clear b1
  go_wp2_with fail
  go_ret
  exact ⟨by rw [decide_eq_false Q.out]; rfl, B1.out⟩
theorem more_is (A : Nat → Nat → Bool) (l : List Ev) (g : Int) (c : Nat) : (heldP l).any (fun x => decide (c < knF A l x g)) = more A l g c := rfl
theorem kn_bound (l : List Ev) (k : Nat) (g : Int) (hl : l.length ≤ 100) : knF (hA l) l k g ≤ 1000 := by
 have h1 := num_le l k g
 unfold knF
 split
 ·omega
 ·have := (stp_rng l g (Mx.ps (fun j => hA l j k) l.length) 0 (by omega)).2
  have e := most_fold (hA l) l k g l.length
  omega
end Ax
end Go.Proofs.YtblfimobiibmjaaGreat
