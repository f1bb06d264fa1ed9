import Derived.Test.YtblfimobiibmjaaGreatZjAh19
import Derived.Test.YtblfimobiibmjaaGreatAxq
namespace Go.Proofs.YtblfimobiibmjaaGreat
open Go.ChangeShapes Go.WideShapes Go.ChangeAt Go.RowKit
namespace Ax
open En Gu Eg Ba
set_option maxRecDepth 100000 in
set_option maxHeartbeats 1600000 in
theorem settled_no (oa : Option Addr) (l : List Ev) (c : Nat) (i : Int) (w : World) (hA : EsAt w oa l) (hl : l.length ≤ 1000) (ht : tokB l = false) :
 Calls Tryz.prog 29 #[.slice oa l.length c, .int .i64 i] w fun r w' => r = .returned (.tuple #[.int .i64 0, .bool false, .int .i64 4]) ∧ Below w.heap.size w w' := by
 have TF := hide (tof_no oa l c w hA hl ht)
 generalize l.length = n at *
 clear hA hl ht
 go_enter Tryz.func29, Tryz.ntmps29
 go_wp2_with fail
 refine TF.out.mono ?_
 rintro r w1 ⟨rfl, b1⟩
 have B1 := hide (btr b1 (below_alloc w1 (.cells #[.pointer none, .slice none 0 0, .slice none 0 0] 83)))
 clear b1 TF
 go_wp2_with fail
 go_ret3
 exact ⟨rfl, B1.out⟩
def gorB (l : List Ev) (i : Int) : Bool := decide (0 ≤ i) && decide (i < (there l : Int))
noncomputable def setA (l : List Ev) (i : Int) : Option Nat := if gorB l i then setF (hA l) l i else none
def setE (l : List Ev) (i : Int) : Int := if gorB l i then 0 else 1
set_option maxRecDepth 100000 in
set_option maxHeartbeats 3200000 in
theorem settled_yes (oa : Option Addr) (l : List Ev) (c : Nat) (i : Int) (w : World) (hA : EsAt w oa l) (hl : l.length ≤ 100) (ht : tokB l = true) :
 Calls Tryz.prog 29 #[.slice oa l.length c, .int .i64 i] w fun r w' => r = .returned (.tuple #[.int .i64 (fr1 (setA l i)), .bool (setA l i).isSome, .int .i64 (setE l i)]) ∧ Below w.heap.size w w' := by
 have TF := hide (tof_yes oa l c w hA (by omega) ht)
 have hT := tokB_iff.1 ht
 have GO := hide (fun u (bb : Below w.heap.size w u) => gors_any oa l c u (hA.below bb) (by omega) (hw_g hT))
 rw [gor_is hT (by omega)] at GO
 have ST := hide (fun (g : Nat) (hg : g < there l) (u : World) (M R W b : Nat) (T : TW u w.heap.size M R W b oa l) => settled_any u w.heap.size M R W b c g oa l T hT hl hg)
 unfold setA setE
 obtain ⟨n, hn⟩ : ∃ n, l.length = n := ⟨_, rfl⟩
 have HN := hide hn
 rw [hn] at TF GO ST hl ⊢
 by_cases h0 : 0 ≤ i
 ·by_cases h1 : i < (there l : Int)
  ·obtain ⟨g, rfl⟩ : ∃ g : Nat, i = (g : Int) := ⟨i.toNat, by omega⟩
   have q : gorB l (g : Int) = true := by unfold gorB; simp; omega
   rw [q]
   simp only [if_true]
   have S2 := hide (ST.out g (by omega))
   obtain ⟨o, ho⟩ : ∃ o, setF (Ax.hA l) l (g : Int) = o := ⟨_, rfl⟩
   rw [ho] at S2 ⊢
   obtain ⟨G, hG⟩ : ∃ G, there l = G := ⟨_, rfl⟩
   rw [hG] at GO h1
   have h0' : ¬ ((g : Int) < 0) := by omega
   have h1' : ¬ ((g : Int) ≥ (G : Int)) := by omega
   clear hA ht hn q ho hG hT ST
   go_enter Tryz.func29, Tryz.ntmps29
   go_wp2_with fail
   refine TF.out.mono ?_
   rintro r w1 ⟨M, R, W, b, rfl, t1, b1⟩
   have B1 := hide (btr b1 (below_alloc w1 (.cells #[.pointer (some ⟨M, 0, none⟩), .slice oa n c, .slice (some ⟨b, 0, none⟩) n n] 83)))
   have T1 := hide (t1.below (below_alloc w1 (.cells #[.pointer (some ⟨M, 0, none⟩), .slice oa n c, .slice (some ⟨b, 0, none⟩) n n] 83)))
   have X1 := hide (heap_new w1 (.cells #[.pointer (some ⟨M, 0, none⟩), .slice oa n c, .slice (some ⟨b, 0, none⟩) n n] 83))
   clear b1 TF t1
   go_upto_region 2 with fail
   generalize w1.alloc (.cells #[.pointer (some ⟨M, 0, none⟩), .slice oa n c, .slice (some ⟨b, 0, none⟩) n n] 83) = w2 at *
   generalize w1.heap.size = D at *
   have G2 := hide (GO.out w2 B1.out)
   go_wp2_with fail
   refine G2.out.mono ?_
   rintro r w3 ⟨rfl, b3⟩
   have X3 := heap_below X1.out b3
   have B3 := hide (btr B1.out b3)
   have S3 := hide (S2.out w3 M R W b (T1.out.below b3))
   have t0 : w3.cell? ⟨D, 0, none⟩ = some (.pointer (some ⟨M, 0, none⟩)) := cell_of X3 0
   have t1 : w3.cell? ⟨D, 1, none⟩ = some (.slice oa n c) := cell_of X3 1
   have t2 : w3.cell? ⟨D, 2, none⟩ = some (.slice (some ⟨b, 0, none⟩) n n) := cell_of X3 2
   clear X3 b3 G2 GO
   go_wp2_with fail
   refine S3.out.mono ?_
   rintro r w4 ⟨rfl, b4⟩
   have B4 := hide (btr B3.out b4)
   clear b4 t0 t1 t2
   go_wp2_with fail
   go_ret3
   exact ⟨rfl, B4.out⟩
  ·have q : gorB l i = false := by unfold gorB; simp [h1]
   rw [q]
   simp only [Bool.false_eq_true, if_false]
   obtain ⟨G, hG⟩ : ∃ G, there l = G := ⟨_, rfl⟩
   rw [hG] at GO h1
   have h0' : ¬ (i < 0) := by omega
   have h1' : i ≥ (G : Int) := by omega
   clear hA ht hn q hG hT ST h1
   go_enter Tryz.func29, Tryz.ntmps29
   go_wp2_with fail
   refine TF.out.mono ?_
   rintro r w1 ⟨M, R, W, b, rfl, t1, b1⟩
   have B1 := hide (btr b1 (below_alloc w1 (.cells #[.pointer (some ⟨M, 0, none⟩), .slice oa n c, .slice (some ⟨b, 0, none⟩) n n] 83)))
   clear b1 TF t1
   go_upto_region 2 with fail
   generalize w1.alloc (.cells #[.pointer (some ⟨M, 0, none⟩), .slice oa n c, .slice (some ⟨b, 0, none⟩) n n] 83) = w2 at *
   have G2 := hide (GO.out w2 B1.out)
   go_wp2_with fail
   refine G2.out.mono ?_
   rintro r w3 ⟨rfl, b3⟩
   have B3 := hide (btr B1.out b3)
   clear b3 G2 GO
   go_wp2_with fail
   go_ret3
   exact ⟨rfl, B3.out⟩
 ·have q : gorB l i = false := by unfold gorB; simp [h0]
  rw [q]
  simp only [Bool.false_eq_true, if_false]
  have h0' : i < 0 := by omega
  clear hA ht hn q hT ST GO h0
  go_enter Tryz.func29, Tryz.ntmps29
  go_wp2_with fail
  refine TF.out.mono ?_
  rintro r w1 ⟨M, R, W, b, rfl, t1, b1⟩
  have B1 := hide (btr b1 (below_alloc w1 (.cells #[.pointer (some ⟨M, 0, none⟩), .slice oa n c, .slice (some ⟨b, 0, none⟩) n n] 83)))
  clear b1 TF t1
  go_wp2_with fail
  go_ret3
  exact ⟨rfl, B1.out⟩
end Ax
end Go.Proofs.YtblfimobiibmjaaGreat
