import Derived.Test.YtblfimobiibmjaaGreatZjAh17
import Derived.Laws.IdiomCopy
import Derived.Deep.AppendSrc
import Derived.Lib.Slices
import Derived.Lib.AppendZeros
import Derived.Deep.Slices
import Derived.ShutString
import Derived.ChangeOld
import Derived.Deep.QuietTactic
import Derived.BigQuiet
import Derived.Deep.Cut
namespace Go.Proofs.YtblfimobiibmjaaGreat
open Go.ChangeShapes Go.WideShapes Go.ChangeAt Go.RowKit
namespace Ax
open En Gu Eg Ba
abbrev psW : List (List Lo.OpD) := [[⟨1, 1, 0, [], false⟩, ⟨8, 0, 0, [], false⟩], [⟨8, 0, 0, [], false⟩]]
def trW : List Ev := [⟨1, 0, -1, -1, 1, 1, false, false⟩, ⟨10, 0, -1, -1, 0, -1, false, false⟩, ⟨10, 1, -1, -1, 0, -1, false, false⟩]
theorem tok_trW : Tok trW := by
 intro i e he
 match i, he with
 | 0, he => cases he; decide
 | 1, he => cases he; decide
 | 2, he => cases he; decide
 | i + 3, he => simp [trW] at he
theorem allS_trW : allS trW = [⟨0, 1, 1⟩, ⟨0, 2, 2⟩] := by
 refine (allS_of tok_trW (m := [⟨0, 1, 1⟩, ⟨0, 2, 2⟩]) ?_ ?_).symm
 ·rw [show allE trW = [⟨0, 1, 1⟩, ⟨0, 2, 2⟩] by rfl]
 ·unfold ltE
  simp
theorem ahd_trW : ahd trW = Mx.clo (Mx.sets 3 (fun _ => 0) [(0, 1), (0, 2)]) 3 := by
 unfold ahd relS eds
 rw [allS_trW]
 rfl
theorem has_trW (i k : Int) (b : Bool) (h : Mx.hsI 3 (Mx.clo (Mx.sets 3 (fun _ => 0) [(0, 1), (0, 2)]) 3) i k = b) : Mx.hsI 3 (ahd trW) i k = b := by
 rw [ahd_trW]
 exact h
theorem fir_trW : firA trW 0 = some 2 := by
 unfold firA hA
 rw [ahd_trW]
 decide
theorem whW_at (w : World) : Sh.SAt ((((w.alloc (.cells #[.int .i64 1, .int .i64 1, .int .i64 0, .slice none 0 0, .bool false, .int .i64 8, .int .i64 0, .int .i64 0, .slice none 0 0, .bool false] 64)).alloc (.cells #[.int .i64 8, .int .i64 0, .int .i64 0, .slice none 0 0, .bool false] 64)).alloc (.cells #[.slice (some ⟨w.heap.size, 0, none⟩) 2 2, .slice (some ⟨w.heap.size + 1, 0, none⟩) 1 1] 65)).alloc (.cells #[.int .i64 0, .int .i64 0, .int .i64 1] 3)) ⟨9, 9, psW, [0, 0, 1], []⟩ (some ⟨w.heap.size + 1 + 1, 0, none⟩) (some ⟨w.heap.size + 1 + 1 + 1, 0, none⟩) none ∧ Below w.heap.size w ((((w.alloc (.cells #[.int .i64 1, .int .i64 1, .int .i64 0, .slice none 0 0, .bool false, .int .i64 8, .int .i64 0, .int .i64 0, .slice none 0 0, .bool false] 64)).alloc (.cells #[.int .i64 8, .int .i64 0, .int .i64 0, .slice none 0 0, .bool false] 64)).alloc (.cells #[.slice (some ⟨w.heap.size, 0, none⟩) 2 2, .slice (some ⟨w.heap.size + 1, 0, none⟩) 1 1] 65)).alloc (.cells #[.int .i64 0, .int .i64 0, .int .i64 1] 3)) := by
 have b1 := below_alloc w (.cells #[.int .i64 1, .int .i64 1, .int .i64 0, .slice none 0 0, .bool false, .int .i64 8, .int .i64 0, .int .i64 0, .slice none 0 0, .bool false] 64)
 have h1 := heap_new w (.cells #[.int .i64 1, .int .i64 1, .int .i64 0, .slice none 0 0, .bool false, .int .i64 8, .int .i64 0, .int .i64 0, .slice none 0 0, .bool false] 64)
 have z1 : (w.alloc (.cells #[.int .i64 1, .int .i64 1, .int .i64 0, .slice none 0 0, .bool false, .int .i64 8, .int .i64 0, .int .i64 0, .slice none 0 0, .bool false] 64)).heap.size = w.heap.size + 1 := World.size_alloc ..
 generalize w.alloc (.cells #[.int .i64 1, .int .i64 1, .int .i64 0, .slice none 0 0, .bool false, .int .i64 8, .int .i64 0, .int .i64 0, .slice none 0 0, .bool false] 64) = w1 at *
 have b2 := below_alloc w1 (.cells #[.int .i64 8, .int .i64 0, .int .i64 0, .slice none 0 0, .bool false] 64)
 have h2 := heap_new w1 (.cells #[.int .i64 8, .int .i64 0, .int .i64 0, .slice none 0 0, .bool false] 64)
 have z2 : (w1.alloc (.cells #[.int .i64 8, .int .i64 0, .int .i64 0, .slice none 0 0, .bool false] 64)).heap.size = w1.heap.size + 1 := World.size_alloc ..
 generalize w1.alloc (.cells #[.int .i64 8, .int .i64 0, .int .i64 0, .slice none 0 0, .bool false] 64) = w2 at *
 have b3 := below_alloc w2 (.cells #[.slice (some ⟨w.heap.size, 0, none⟩) 2 2, .slice (some ⟨w.heap.size + 1, 0, none⟩) 1 1] 65)
 have h3 := heap_new w2 (.cells #[.slice (some ⟨w.heap.size, 0, none⟩) 2 2, .slice (some ⟨w.heap.size + 1, 0, none⟩) 1 1] 65)
 have z3 : (w2.alloc (.cells #[.slice (some ⟨w.heap.size, 0, none⟩) 2 2, .slice (some ⟨w.heap.size + 1, 0, none⟩) 1 1] 65)).heap.size = w2.heap.size + 1 := World.size_alloc ..
 generalize w2.alloc (.cells #[.slice (some ⟨w.heap.size, 0, none⟩) 2 2, .slice (some ⟨w.heap.size + 1, 0, none⟩) 1 1] 65) = w3 at *
 have b4 := below_alloc w3 (.cells #[.int .i64 0, .int .i64 0, .int .i64 1] 3)
 have h4 := heap_new w3 (.cells #[.int .i64 0, .int .i64 0, .int .i64 1] 3)
 generalize w3.alloc (.cells #[.int .i64 0, .int .i64 0, .int .i64 1] 3) = w4 at *
 rw [z3, z2, z1] at h4
 rw [z2, z1] at h3
 rw [z1] at h2
 have g1 := heap_below (heap_below (heap_below h1 b2) b3) b4
 have g2 := heap_below (heap_below h2 b3) b4
 have g3 := heap_below h3 b4
 refine ⟨⟨?_, ?_, fun k hk => absurd hk (Nat.not_lt_zero _), by decide, by decide, by decide⟩, btr (btr (btr b1 b2) b3) b4⟩
 ·intro k q hq
  match k, hq with
  | 0, hq =>
    obtain rfl : q = [⟨1, 1, 0, [], false⟩, ⟨8, 0, 0, [], false⟩] := by simpa [psW] using hq.symm
    refine ⟨_, _, _, 2, rfl, cell_of g3 0, ?_, by decide⟩
    intro j o ho
    match j, ho with
    | 0, ho =>
      obtain rfl : o = ⟨1, 1, 0, [], false⟩ := by simpa using ho.symm
      exact ⟨_, _, none, 0, rfl, ⟨cell_of g1 0, cell_of g1 1, cell_of g1 2, cell_of g1 3, cell_of g1 4⟩, (fun k x hk => by simp at hk), by decide⟩
    | 1, ho =>
      obtain rfl : o = ⟨8, 0, 0, [], false⟩ := by simpa using ho.symm
      exact ⟨_, _, none, 0, rfl, ⟨cell_of g1 5, cell_of g1 6, cell_of g1 7, cell_of g1 8, cell_of g1 9⟩, (fun k x hk => by simp at hk), by decide⟩
    | j + 2, ho => simp at ho
  | 1, hq =>
    obtain rfl : q = [⟨8, 0, 0, [], false⟩] := by simpa [psW] using hq.symm
    refine ⟨_, _, _, 1, rfl, cell_of g3 1, ?_, by decide⟩
    intro j o ho
    match j, ho with
    | 0, ho =>
      obtain rfl : o = ⟨8, 0, 0, [], false⟩ := by simpa using ho.symm
      exact ⟨_, _, none, 0, rfl, ⟨cell_of g2 0, cell_of g2 1, cell_of g2 2, cell_of g2 3, cell_of g2 4⟩, (fun k x hk => by simp at hk), by decide⟩
    | j + 1, ho => simp at ho
  | k + 2, hq => simp [psW] at hq
 ·intro k hk
  have hk' : k < 3 := hk
  match k, hk' with
  | 0, _ => exact ⟨_, _, rfl, cell_of h4 0⟩
  | 1, _ => exact ⟨_, _, rfl, cell_of h4 1⟩
  | 2, _ => exact ⟨_, _, rfl, cell_of h4 2⟩
theorem k0 : Lo.verd (Lo.stepsF 0 (Lo.newS ⟨9, 9, psW, [0, 0, 1], []⟩)) = 0 ∧ Ba.nth (Lo.stepsF 0 (Lo.newS ⟨9, 9, psW, [0, 0, 1], []⟩)).p 0 ≠ -1 ∧ (Lo.opOf (Lo.stepsF 0 (Lo.newS ⟨9, 9, psW, [0, 0, 1], []⟩)) (Lo.whoN (Lo.stepsF 0 (Lo.newS ⟨9, 9, psW, [0, 0, 1], []⟩)))).kind = 1 := by decide +kernel
theorem k1 : Lo.verd (Lo.stepsF 1 (Lo.newS ⟨9, 9, psW, [0, 0, 1], []⟩)) = 0 ∧ Ba.nth (Lo.stepsF 1 (Lo.newS ⟨9, 9, psW, [0, 0, 1], []⟩)).p 0 ≠ -1 ∧ (Lo.opOf (Lo.stepsF 1 (Lo.newS ⟨9, 9, psW, [0, 0, 1], []⟩)) (Lo.whoN (Lo.stepsF 1 (Lo.newS ⟨9, 9, psW, [0, 0, 1], []⟩)))).kind = 8 := by decide +kernel
theorem k2 : Lo.verd (Lo.stepsF 2 (Lo.newS ⟨9, 9, psW, [0, 0, 1], []⟩)) = 0 ∧ Ba.nth (Lo.stepsF 2 (Lo.newS ⟨9, 9, psW, [0, 0, 1], []⟩)).p 0 ≠ -1 ∧ (Lo.opOf (Lo.stepsF 2 (Lo.newS ⟨9, 9, psW, [0, 0, 1], []⟩)) (Lo.whoN (Lo.stepsF 2 (Lo.newS ⟨9, 9, psW, [0, 0, 1], []⟩)))).kind = 8 := by decide +kernel
theorem k3 : Lo.verd (Lo.stepsF 3 (Lo.newS ⟨9, 9, psW, [0, 0, 1], []⟩)) ≠ 0 := by decide +kernel
set_option maxRecDepth 100000 in
set_option maxHeartbeats 1600000 in
theorem step_w (L N : Nat) (col : Nat → Nat) (n : Nat) (u : World) (hn : n ≤ 3) (h : Rlo.RW u col L N (Lo.stepsF n (Lo.newS ⟨9, 9, psW, [0, 0, 1], []⟩))) :
 Calls Tryz.prog 60 #[.pointer (some ⟨L, 0, none⟩)] u fun r w' => (∃ b, r = .returned (.bool b)) ∧ ∃ col', Rlo.RW w' col' L N (Lo.stepsF (n + 1) (Lo.newS ⟨9, 9, psW, [0, 0, 1], []⟩)) ∧ Rlo.Tq col col' u w' := by
 have hs : Sh.schk ⟨9, 9, psW, [0, 0, 1], []⟩ = 0 := by decide
 have go : ∀ (n' : Nat) (v : Lo.verd (Lo.stepsF n' (Lo.newS ⟨9, 9, psW, [0, 0, 1], []⟩)) = 0) (t : Ba.nth (Lo.stepsF n' (Lo.newS ⟨9, 9, psW, [0, 0, 1], []⟩)).p 0 ≠ -1) (k : (Lo.opOf (Lo.stepsF n' (Lo.newS ⟨9, 9, psW, [0, 0, 1], []⟩)) (Lo.whoN (Lo.stepsF n' (Lo.newS ⟨9, 9, psW, [0, 0, 1], []⟩)))).kind = 1 ∨ (Lo.opOf (Lo.stepsF n' (Lo.newS ⟨9, 9, psW, [0, 0, 1], []⟩)) (Lo.whoN (Lo.stepsF n' (Lo.newS ⟨9, 9, psW, [0, 0, 1], []⟩)))).kind = 8) (h : Rlo.RW u col L N (Lo.stepsF n' (Lo.newS ⟨9, 9, psW, [0, 0, 1], []⟩))),
  Calls Tryz.prog 60 #[.pointer (some ⟨L, 0, none⟩)] u fun r w' => (∃ b, r = .returned (.bool b)) ∧ ∃ col', Rlo.RW w' col' L N (Lo.stepsF (n' + 1) (Lo.newS ⟨9, 9, psW, [0, 0, 1], []⟩)) ∧ Rlo.Tq col col' u w' := by
  intro n' v t k h
  obtain ⟨m, -, i, -⟩ := Lo.Inv.steps hs n'
  rw [Lo.steps_succ]
  refine (Rlo.rstep_w L N col _ m _ u h hs i v t k).mono ?_
  rintro r w1 ⟨rfl, x⟩
  exact ⟨⟨_, rfl⟩, x⟩
 rcases (show n = 0 ∨ n = 1 ∨ n = 2 ∨ n = 3 by omega) with rfl | rfl | rfl | rfl
 ·exact go 0 k0.1 k0.2.1 (.inl k0.2.2) h
 ·exact go 1 k1.1 k1.2.1 (.inr k1.2.2) h
 ·exact go 2 k2.1 k2.2.1 (.inr k2.2.2) h
 ·rw [Lo.steps_succ, Lo.step_end k3]
  refine (Rlo.rstep_over L N col _ u h k3).mono ?_
  rintro r w1 ⟨rfl, b1⟩
  obtain ⟨c1, h1, t1, -⟩ := h.below b1
  exact ⟨⟨_, rfl⟩, c1, h1, t1⟩
set_option maxRecDepth 100000 in
set_option maxHeartbeats 3200000 in
theorem write_any (w : World) : Calls Tryz.prog 17 #[] w fun r w' => r = .returned (.bool true) ∧ Below w.heap.size w w' := by
 obtain ⟨S0, B0⟩ := whW_at w
 obtain ⟨R, hR⟩ : ∃ R, Lo.runF ⟨9, 9, psW, [0, 0, 1], []⟩ = R := ⟨_, rfl⟩
 have r1 : (Lo.runF ⟨9, 9, psW, [0, 0, 1], []⟩).tr = trW := by rfl
 have r2 : Lo.verd (Lo.runF ⟨9, 9, psW, [0, 0, 1], []⟩) = 4 := by rfl
 rw [hR] at r1 r2
 have RN := hide (Rlo.rlrun_w 9 9 psW [0, 0, 1] [] _ _ none 2 3 0 _ S0 (by decide) step_w R hR)
 rw [r1, r2, show trW.length = 3 from rfl] at RN
 have TB : tokB trW = true := tokB_iff.2 tok_trW
 have FI := hide (fun (oa : Option Addr) (c : Nat) (u : World) (hA : EsAt u oa trW) => first_yes oa trW c 0 u hA (by decide) TB)
 rw [fir_trW, show fr1 (some 2) = 2 from rfl, show cellE 0 = 0 from rfl, show (some 2 : Option Nat).isSome = true from rfl] at FI
 have AH := hide (fun (oa : Option Addr) (c : Nat) (u : World) (hA : EsAt u oa trW) => ahead_yes oa trW c u hA (by decide) TB)
 have H0 := has_trW 0 2 true (by decide)
 have H1 := has_trW 1 2 false (by decide)
 have L3 : trW.length = 3 := rfl
 rw [L3] at FI AH
 have B0 := hide B0
 clear hR r1 r2 S0 TB
 go_enter Tryz.func17, Tryz.ntmps17
 go_wp2_with fail
 refine RN.out.mono ?_
 rintro r w1 ⟨ob, d, rfl, e1, -, b1⟩
 have B1 := hide (btr B0.out b1)
 have hfd : ∀ u, (Instr.field 60 (.agg #[.slice ob 3 d, .int .i64 4]) 0).run Tryz.prog u = .ok (.slice ob 3 d) u := fun _ => by kernel_rfl
 have F1 := hide (FI.out ob d w1 e1)
 have E1 := hide e1
 clear e1 b1 RN FI
 go_wp2_with fail
 refine F1.out.mono ?_
 rintro r w2 ⟨rfl, b2⟩
 have B2 := hide (btr B1.out b2)
 have A2 := hide (AH.out ob d w2 (E1.out.below b2))
 clear b2 F1 AH
 go_wp2_with fail
 refine A2.out.mono ?_
 rintro r w3 ⟨M, R, W, rfl, m3, b3⟩
 have B3 := hide (btr B2.out b3)
 have HA0 := Mx.has_any m3 0 2
 rw [H0] at HA0
 have HA0 := hide HA0
 have M3 := hide m3
 clear b3 A2 m3
 go_wp2_with fail
 refine HA0.out.mono ?_
 rintro r w4 ⟨rfl, n4, rfl⟩
 have HA1 := Mx.has_any (M3.out.drw n4) 1 2
 rw [H1] at HA1
 have HA1 := hide HA1
 go_wp2_with fail
 refine HA1.out.mono ?_
 rintro r w5 ⟨rfl, n5, rfl⟩
 go_wp2_with fail
 go_ret
 exact ⟨rfl, btr B3.out (bdrew w3 (n4 + n5))⟩
end Ax
end Go.Proofs.YtblfimobiibmjaaGreat
namespace Go.Proofs.YtblfimobiibmjaaGreat
open Go.ChangeShapes Go.WideShapes Go.ChangeAt Go.RowKit
namespace Mx
open Ba (KB btr heap_lt cell_of frozen_of ret_bool ret_int bdrew bdrew1 heap_new below_alloc heap_below own_below)
theorem q1 (x : Nat) (h : x < 18446744073709551616) (ho : o1 x < 18446744073709551616) : IntKind.u64.wrap (bits .and .u64 ((x : Int) / 2) 6148914691236517205 + bits .and .u64 (x : Int) 6148914691236517205) = ((o1 x : Nat) : Int) := by
 have e1 := and_nat (x / 2) 6148914691236517205 (by omega) (by omega)
 have e2 := and_nat x 6148914691236517205 h (by omega)
 rw [show ((x / 2 : Nat) : Int) = (x : Int) / 2 from Int.natCast_ediv x 2] at e1
 rw [show ((6148914691236517205 : Nat) : Int) = 6148914691236517205 from rfl] at e1 e2
 rw [e1, e2, ← Int.natCast_add]
 exact wrap_u64n _ ho
theorem q2 (x : Nat) (h : x < 18446744073709551616) (ho : o2 x < 18446744073709551616) : IntKind.u64.wrap (bits .and .u64 ((x : Int) / 4) 3689348814741910323 + bits .and .u64 (x : Int) 3689348814741910323) = ((o2 x : Nat) : Int) := by
 have e1 := and_nat (x / 4) 3689348814741910323 (by omega) (by omega)
 have e2 := and_nat x 3689348814741910323 h (by omega)
 rw [show ((x / 4 : Nat) : Int) = (x : Int) / 4 from Int.natCast_ediv x 4] at e1
 rw [show ((3689348814741910323 : Nat) : Int) = 3689348814741910323 from rfl] at e1 e2
 rw [e1, e2, ← Int.natCast_add]
 exact wrap_u64n _ ho
theorem q3 (x : Nat) (h : x < 4991471925827290437) : bits .and .u64 (IntKind.u64.wrap ((x : Int) / 16 + (x : Int))) 1085102592571150095 = ((o3 x : Nat) : Int) := by
 have e0 : IntKind.u64.wrap ((x : Int) / 16 + (x : Int)) = ((x / 16 + x : Nat) : Int) := by
  rw [show (x : Int) / 16 + (x : Int) = ((x / 16 + x : Nat) : Int) by omega]
  exact wrap_u64n _ (by omega)
 have e1 := and_nat (x / 16 + x) 1085102592571150095 (by omega) (by omega)
 rw [show ((1085102592571150095 : Nat) : Int) = 1085102592571150095 from rfl] at e1
 rw [e0, e1]
 rfl
theorem q4 (x : Nat) (h : o4 x < 9223372036854775808) : IntKind.u64.wrap ((x : Int) + (x : Int) / 256) = ((o4 x : Nat) : Int) := by
 rw [show (x : Int) + (x : Int) / 256 = ((o4 x : Nat) : Int) by unfold o4; omega]
 exact wrap_u64n _ (by omega)
end Mx
end Go.Proofs.YtblfimobiibmjaaGreat
namespace Go.Proofs.YtblfimobiibmjaaGreat
open Go.ChangeShapes Go.WideShapes Go.ChangeAt Go.RowKit
namespace Mx
open Ba (KB btr heap_lt cell_of frozen_of ret_bool ret_int bdrew bdrew1 heap_new below_alloc heap_below own_below)
end Mx
end Go.Proofs.YtblfimobiibmjaaGreat
namespace Go.Proofs.YtblfimobiibmjaaGreat
open Go.ChangeShapes Go.WideShapes Go.ChangeAt Go.RowKit
namespace Mx
open Ba (KB btr heap_lt cell_of frozen_of ret_bool ret_int bdrew bdrew1 heap_new below_alloc heap_below own_below)
def rv (n : Nat) (bs : List Nat) : List Value := bs.map fun b => .slice (some ⟨b, 0, none⟩) n n
theorem rv_at {n : Nat} {bs : List Nat} {i b : Nat} (h : bs[i]? = some b) : (rv n bs)[i]? = some (.slice (some ⟨b, 0, none⟩) n n) := by simp [rv, h]
theorem rv_one (n : Nat) (bs : List Nat) : ∀ v ∈ rv n bs, v.oneCell' = true := by
 intro v hv
 obtain ⟨b, -, rfl⟩ := List.mem_map.1 hv
 rfl
theorem rv_app (n : Nat) (l m : List Nat) : rv n (l ++ m) = rv n l ++ rv n m := by simp [rv]
structure TX (w : World) (base n : Nat) (v : Value) (bs : List Nat) (f : Nat → Nat → Bool) : Prop where
 own : w.ownsRow base 96 1 v bs.length (rv n bs)
 row : ∀ i b, bs[i]? = some b → base ≤ b ∧ ∃ cur, w.heap[b]? = some (.cells cur 4) ∧ ∀ k, k < n → cur[k]? = some (.bool (f i k))
 nd : bs.Nodup
structure RX (w : World) (base G n : Nat) (f : Nat → Nat → Bool) (v : Value) (bs : List Nat) : Prop where
 le : n ≤ 1024
 hd : w.heap[G]? = some (.cells #[v] 99)
 gb : base ≤ G
 tx : TX w base n v bs f
 len : bs.length = n
theorem TX.keep {w w' : World} {base n : Nat} {v : Value} {bs : List Nat} {f : Nat → Nat → Bool} (t : TX w base n v bs f) (h : ∀ k, base ≤ k → k < w.heap.size → w'.heap[k]? = w.heap[k]?) : TX w' base n v bs f := by
 refine ⟨⟨t.own.1, ?_⟩, fun i b hb => ?_, t.nd⟩
 ·rcases t.own.2 with q | ⟨g, cap, cur, q1, q2, q3, q4⟩
  ·exact .inl q
  ·exact .inr ⟨g, cap, cur, q1, q2, (h g q2 (heap_lt q3)).trans q3, q4⟩
 ·obtain ⟨h1, cur, h2, h3⟩ := t.row i b hb
  exact ⟨h1, cur, (h b h1 (heap_lt h2)).trans h2, h3⟩
theorem RX.keep {w w' : World} {base G n : Nat} {f : Nat → Nat → Bool} {v : Value} {bs : List Nat} (x : RX w base G n f v bs) (h : ∀ k, base ≤ k → k < w.heap.size → w'.heap[k]? = w.heap[k]?) : RX w' base G n f v bs :=
 ⟨x.le, (h G x.gb (heap_lt x.hd)).trans x.hd, x.gb, x.tx.keep h, x.len⟩
theorem RX.below {w w' : World} {base G n : Nat} {f : Nat → Nat → Bool} {v : Value} {bs : List Nat} (x : RX w base G n f v bs) (b : Below w.heap.size w w') : RX w' base G n f v bs :=
 x.keep fun k _ hk => b.block k hk
theorem RX.kb {w w' : World} {base G n W : Nat} {f : Nat → Nat → Bool} {v : Value} {bs : List Nat} (x : RX w base G n f v bs) (b : KB W w w') (hW : W < base) : RX w' base G n f v bs :=
 x.keep fun k hb hk => b.block k hk (by omega)
theorem RX.slice {w : World} {base G n : Nat} {f : Nat → Nat → Bool} {v : Value} {bs : List Nat} (x : RX w base G n f v bs) : ∃ oa c, v = .slice oa n c := by
 obtain ⟨oa, c, h⟩ := own_slice x.tx.own
 rw [x.len] at h
 exact ⟨oa, c, h⟩
theorem own_cellg {w : World} {base : Nat} {e : TypeId} {oa : Option Addr} {c n : Nat} {xs : List Value} (h : w.ownsRow base e 1 (.slice oa n c) n xs) {i : Nat} {x : Value} (hi : i < n) (hx : xs[i]? = some x) : ∃ g, oa = some ⟨g, 0, none⟩ ∧ w.cell? ⟨g, i, none⟩ = some x := by
 rcases h.2 with ⟨-, h0⟩ | ⟨g, cap, cur, e1, -⟩
 ·omega
 ·cases e1
  exact ⟨g, rfl, by rw [h.cellAt i (by omega)]; exact hx⟩
theorem RX.at {w : World} {base G n : Nat} {f : Nat → Nat → Bool} {oa : Option Addr} {c : Nat} {bs : List Nat} (x : RX w base G n f (.slice oa n c) bs) {i : Nat} (hi : i < n) : ∃ g b cur, oa = some ⟨g, 0, none⟩ ∧ w.cell? ⟨g, i, none⟩ = some (.slice (some ⟨b, 0, none⟩) n n) ∧ bs[i]? = some b ∧ w.heap[b]? = some (.cells cur 4) ∧ base ≤ b ∧ ∀ k, k < n → w.cell? ⟨b, k, none⟩ = some (.bool (f i k)) := by
 obtain ⟨b, hb⟩ : ∃ b, bs[i]? = some b := ⟨_, List.getElem?_eq_getElem (by rw [x.len]; exact hi)⟩
 have ho := x.tx.own
 rw [x.len] at ho
 obtain ⟨g, rfl, hc⟩ := own_cellg ho hi (rv_at hb)
 obtain ⟨h1, cur, h2, h3⟩ := x.tx.row i b hb
 exact ⟨g, _, cur, rfl, hc, hb, h2, h1, fun k hk => (cell_of h2 k).trans (h3 k hk)⟩
def inI (n : Nat) (i : Int) : Bool := decide (0 ≤ i) && decide (i < n)
set_option maxHeartbeats 800000 in
theorem in_any {w : World} {base G n : Nat} {f : Nat → Nat → Bool} {v : Value} {bs : List Nat} (x : RX w base G n f v bs) (i : Int) :
 Calls Tryz.prog 49 #[.pointer (some ⟨G, 0, none⟩), .int .i64 i] w fun e w' => e = .returned (.bool (inI n i)) ∧ w' = w := by
 obtain ⟨oa, c, rfl⟩ := x.slice
 have c0 : w.cell? ⟨G, 0, none⟩ = some (.slice oa n c) := by rw [cell_of x.hd]; rfl
 have hle := x.le
 unfold inI
 clear x
 by_cases h1 : 0 ≤ i
 ·have a1 : decide (0 ≤ i) = true := by simpa using h1
  rw [a1, Bool.true_and]
  go_enter Tryz.func49, Tryz.ntmps49
  go_wp2
  go_ret
  exact ⟨rfl, rfl⟩
 ·have a1 : decide (0 ≤ i) = false := by simpa using h1
  rw [a1, Bool.false_and]
  go_enter Tryz.func49, Tryz.ntmps49
  go_wp2
  go_ret
  exact ⟨rfl, rfl⟩
theorem inB_in (n : Nat) (i k : Int) : inB n i k = (inI n i && inI n k) := by
 rw [Bool.eq_iff_iff, inB_iff]
 simp only [inI, Bool.and_eq_true, decide_eq_true_eq]
 constructor <;> (intro h; omega)
def fI (n : Nat) (f : Nat → Nat → Bool) (i k : Int) : Bool := inB n i k && f i.toNat k.toNat
set_option maxHeartbeats 800000 in
theorem rhas_any {w : World} {base G n : Nat} {f : Nat → Nat → Bool} {v : Value} {bs : List Nat} (x : RX w base G n f v bs) (i k : Int) :
 Calls Tryz.prog 22 #[.pointer (some ⟨G, 0, none⟩), .int .i64 i, .int .i64 k] w fun e w' => e = .returned (.bool (fI n f i k)) ∧ w' = w := by
 have I1 := hide (in_any x i)
 have I2 := hide (in_any x k)
 unfold fI
 rw [inB_in]
 cases h1 : inI n i
 ·rw [h1] at I1
  clear x h1
  go_enter Tryz.func22, Tryz.ntmps22
  go_wp2_with fail
  refine I1.out.mono ?_
  rintro e w1 ⟨rfl, e1⟩
  obtain rfl := e1.symm
  go_wp2
  go_ret
  exact ⟨rfl, rfl⟩
 ·cases h2 : inI n k
  ·rw [h1] at I1
   rw [h2] at I2
   clear x h1 h2
   go_enter Tryz.func22, Tryz.ntmps22
   go_wp2_with fail
   refine I1.out.mono ?_
   rintro e w1 ⟨rfl, e1⟩
   obtain rfl := e1.symm
   go_wp2_with fail
   refine I2.out.mono ?_
   rintro e w1 ⟨rfl, e1⟩
   obtain rfl := e1.symm
   go_wp2
   go_ret
   exact ⟨rfl, rfl⟩
  ·rw [h1] at I1
   rw [h2] at I2
   simp only [inI, Bool.and_eq_true, decide_eq_true_eq] at h1 h2
   obtain ⟨a, rfl⟩ := Int.eq_ofNat_of_zero_le h1.1
   obtain ⟨b, rfl⟩ := Int.eq_ofNat_of_zero_le h2.1
   simp only [Int.toNat_natCast, Bool.true_and]
   obtain ⟨oa, c, rfl⟩ := x.slice
   have c0 : w.cell? ⟨G, 0, none⟩ = some (.slice oa n c) := by rw [cell_of x.hd]; rfl
   have hle := x.le
   have hn := x.len
   obtain ⟨g, bb, cur, rfl, c1, -, -, -, c2⟩ := x.at (i := a) (by omega)
   have c3 := c2 b (by omega)
   have ha : (a : Int) < (n : Int) := h1.2
   have hb : (b : Int) < (n : Int) := h2.2
   generalize f a b = z at *
   clear x h1 h2 c2 hn
   go_enter Tryz.func22, Tryz.ntmps22
   go_wp2_with fail
   refine I1.out.mono ?_
   rintro e w1 ⟨rfl, e1⟩
   obtain rfl := e1.symm
   go_wp2_with fail
   refine I2.out.mono ?_
   rintro e w1 ⟨rfl, e1⟩
   obtain rfl := e1.symm
   go_wp2
   go_ret
   exact ⟨rfl, rfl⟩
def setF (f : Nat → Nat → Bool) (i k : Nat) : Nat → Nat → Bool := fun a b => f a b || (decide (a = i) && decide (b = k))
theorem ne_ty {w : World} {a b : Nat} {c d : Array Value} {s t : TypeId} (h : w.heap[a]? = some (.cells c s)) (k : w.heap[b]? = some (.cells d t)) (ht : s ≠ t) : a ≠ b := by
 rintro rfl
 rw [h] at k
 simp at k
 exact ht k.2
theorem TX.put {w : World} {base n : Nat} {v : Value} {bs : List Nat} {f : Nat → Nat → Bool} (t : TX w base n v bs f) {i b k : Nat} (hb : bs[i]? = some b) (hk : k < n) (z : Bool) {g : Nat → Nat → Bool} (hg : ∀ a c, a < bs.length → c < n → g a c = if a = i ∧ c = k then z else f a c) : TX (w.setCell ⟨b, k, none⟩ (.bool z)) base n v bs g := by
 obtain ⟨h1, cur, h2, h3⟩ := t.row i b hb
 have hil : i < bs.length := (List.getElem?_eq_some_iff.1 hb).1
 refine ⟨⟨t.own.1, ?_⟩, fun a c hc => ?_, t.nd⟩
 ·rcases t.own.2 with q | ⟨g, cap, cr, q1, q2, q3, q4⟩
  ·exact .inl q
  ·exact .inr ⟨g, cap, cr, q1, q2, (heap_set (ne_ty q3 h2 (by decide))).trans q3, q4⟩
 ·have hal : a < bs.length := (List.getElem?_eq_some_iff.1 hc).1
  by_cases e : a = i
  ·subst e
   rw [hb] at hc
   cases hc
   refine ⟨h1, _, Ba.heap_setCell_same h2 _, fun y hy => ?_⟩
   rw [Array.getElem?_setIfInBounds]
   have hcs : k < cur.size := by
    have := h3 k hk
    exact (Array.getElem?_eq_some_iff.1 this).1
   rw [hg a y hal hy]
   by_cases e2 : k = y
   ·subst e2; simp [hcs]
   ·have e3 : ¬ (y = k) := fun q => e2 q.symm
    simp only [e2, if_false, e3, and_false]
    exact h3 y hy
  ·obtain ⟨g1, cr, g2, g3⟩ := t.row a c hc
   have hne : c ≠ b := by
    intro q
    subst q
    have := (List.getElem?_inj hal t.nd).1 (hc.trans hb.symm)
    exact e this
   refine ⟨g1, cr, (heap_set hne).trans g2, fun y hy => ?_⟩
   rw [hg a y hal hy, if_neg (fun q => e q.1)]
   exact g3 y hy
set_option maxHeartbeats 800000 in
theorem rset_any {w : World} {base G n : Nat} {f : Nat → Nat → Bool} {v : Value} {bs : List Nat} (x : RX w base G n f v bs) (i k : Int) :
 Calls Tryz.prog 46 #[.pointer (some ⟨G, 0, none⟩), .int .i64 i, .int .i64 k] w fun e w' => e = .returned (.int .i64 (setE n i k)) ∧ RX w' base G n (if inB n i k then setF f i.toNat k.toNat else f) v bs ∧ Below base w w' ∧ (∀ (j : Nat) (d : Array Value) (s : TypeId), w.heap[j]? = some (.cells d s) → s ≠ 4 → w'.heap[j]? = some (.cells d s)) := by
 have I1 := hide (in_any x i)
 have I2 := hide (in_any x k)
 unfold setE
 rw [inB_in]
 cases h1 : inI n i
 ·rw [h1] at I1
  rw [Bool.false_and]
  simp only [Bool.false_eq_true, if_false]
  have X := hide x
  clear x h1
  go_enter Tryz.func46, Tryz.ntmps46
  go_wp2_with fail
  refine I1.out.mono ?_
  rintro e w1 ⟨rfl, e1⟩
  obtain rfl := e1.symm
  go_wp2
  go_ret
  exact ⟨rfl, X.out, Below.refl _ _, fun _ _ _ h _ => h⟩
 ·cases h2 : inI n k
  ·rw [h1] at I1
   rw [h2] at I2
   rw [Bool.and_false]
   simp only [Bool.false_eq_true, if_false]
   have X := hide x
   clear x h1 h2
   go_enter Tryz.func46, Tryz.ntmps46
   go_wp2_with fail
   refine I1.out.mono ?_
   rintro e w1 ⟨rfl, e1⟩
   obtain rfl := e1.symm
   go_wp2_with fail
   refine I2.out.mono ?_
   rintro e w1 ⟨rfl, e1⟩
   obtain rfl := e1.symm
   go_wp2
   go_ret
   exact ⟨rfl, X.out, Below.refl _ _, fun _ _ _ h _ => h⟩
  ·rw [h1] at I1
   rw [h2] at I2
   simp only [inI, Bool.and_eq_true, decide_eq_true_eq] at h1 h2
   obtain ⟨a, rfl⟩ := Int.eq_ofNat_of_zero_le h1.1
   obtain ⟨b, rfl⟩ := Int.eq_ofNat_of_zero_le h2.1
   simp only [Int.toNat_natCast, Bool.true_and, if_true]
   obtain ⟨oa, c, rfl⟩ := x.slice
   have c0 : w.cell? ⟨G, 0, none⟩ = some (.slice oa n c) := by rw [cell_of x.hd]; rfl
   have hle := x.le
   obtain ⟨g, bb, cur, rfl, c1, hbb, hcur, hbase, c2⟩ := x.at (i := a) (by omega)
   have c3 := c2 b (by omega)
   have f3 : w.frozen? ⟨bb, b, none⟩ = false := frozen_of hcur b
   have ha : (a : Int) < (n : Int) := h1.2
   have hb : (b : Int) < (n : Int) := h2.2
   have END : Hid (RX (w.setCell ⟨bb, b, none⟩ (.bool true)) base G n (setF f a b) (.slice (some ⟨g, 0, none⟩) n c) bs ∧ Below base w (w.setCell ⟨bb, b, none⟩ (.bool true)) ∧ (∀ (j : Nat) (d : Array Value) (s : TypeId), w.heap[j]? = some (.cells d s) → s ≠ 4 → (w.setCell ⟨bb, b, none⟩ (.bool true)).heap[j]? = some (.cells d s))) := by
    refine ⟨⟨x.le, (heap_set (ne_ty x.hd hcur (by decide))).trans x.hd, x.gb, x.tx.put hbb (by omega) true (fun p q _ _ => ?_), x.len⟩, (Below.refl _ _).setCell (by exact hbase) _, fun j d s h hs => (heap_set (ne_ty h hcur hs)).trans h⟩
    unfold setF
    by_cases e : p = a ∧ q = b
    ·rw [if_pos e, e.1, e.2]; simp
    ·rw [if_neg e]
     have : (decide (p = a) && decide (q = b)) = false := by simp; omega
     rw [this, Bool.or_false]
   clear x h1 h2 c2 hbb hcur hbase
   go_enter Tryz.func46, Tryz.ntmps46
   go_wp2_with fail
   refine I1.out.mono ?_
   rintro e w1 ⟨rfl, e1⟩
   obtain rfl := e1.symm
   go_wp2_with fail
   refine I2.out.mono ?_
   rintro e w1 ⟨rfl, e1⟩
   obtain rfl := e1.symm
   go_wp2
   go_ret
   exact ⟨rfl, END.out⟩
end Mx
end Go.Proofs.YtblfimobiibmjaaGreat
namespace Go.Proofs.YtblfimobiibmjaaGreat
open Go.ChangeShapes Go.WideShapes Go.ChangeAt Go.RowKit
namespace Mx
open Ba (KB btr heap_lt cell_of frozen_of ret_bool ret_int bdrew bdrew1 heap_new below_alloc heap_below own_below)
theorem info_b : (Tryz.prog.info? 4).map (fun i => (i.zero, i.size, i.bytes)) = some (some (.bool false), 1, 1) := by kernel_rfl
theorem info_lb : (Tryz.prog.info? 96).map (fun i => (i.zero, i.size, i.bytes)) = some (some (.slice none 0 0), 1, 24) := by kernel_rfl
theorem mk_b (w : World) (n : Nat) (hn : n ≤ 1000000) : (Instr.makeSlice 96 (.int .i64 (n : Int)) (.int .i64 (n : Int))).run Tryz.prog w = .ok (.slice (some ⟨w.heap.size, 0, none⟩) n n) (w.alloc (.cells (madeCells #[.bool false] n) 4)) := by
 obtain ⟨i0, hi, hz0, hz1, hz2⟩ := info_parts info_b
 have := run_make (P := Tryz.prog) w 96 4 i0 (.bool false) Tryz.underlying96 hi hz0 .i64 .i64 n n (by omega) (Int.le_refl _) (by rw [hz2]; omega) (by omega)
 rw [hz1] at this
 simpa [Value.cells] using this
theorem own_other {w : World} {base : Nat} {e : TypeId} {v : Value} {n g : Nat} {xs : List Value} {c : Array Value} {t : TypeId} (h : w.ownsRow base e 1 v n xs) (hg : w.heap[g]? = some (.cells c t)) (ht : t ≠ e) : some g ≠ v.ownBlock := by
 intro q
 rcases h.2 with ⟨rfl, _⟩ | ⟨b, cap, cur, rfl, _, hb, _⟩
 ·simp [Value.ownBlock] at q
 ·simp [Value.ownBlock] at q
  subst q
  rw [hg] at hb
  simp at hb
  exact ht hb.2
theorem step_append_run {ops : Array Oper} (w : World) {o : Oper} {a : Act} {K : Act → World → Prop} {Q : Exit → Act → World → Prop} {E : Prop} (hgd : o.guard = none) (s x : Operand) (t tn : TypeId)
 (ho : o.op = .call { callee := .builtin .append, args := #[s, x], argTypes := #[t, tn] }) (vs vx : Value) (hs : a.eval s = vs) (hx : a.eval x = vx)
 (v' : Value) (w' : World) (hr : (Builtin.append_ #[t, tn] o.type #[vs, vx]).run Tryz.prog w = .ok v' w') (h : K (a.put o.dst v') w') :
 if Region.wanted o (yielded ops a.tmps) = true then Oper.wp Tryz.prog o a w K Q else E := by
 have hw : Region.wanted o (yielded ops a.tmps) = true := by simp [Region.wanted, hgd]
 rw [if_pos hw]
 exact Lib.wp_append_run w s x t tn ho vs vx hs hx v' w' hr h
theorem TX.app {w : World} {base n : Nat} {v : Value} {bs : List Nat} {f : Nat → Nat → Bool} (t : TX w base n v bs f) (hl : bs.length ≤ 2000) (hbase : base ≤ w.heap.size) {b : Nat} {cur : Array Value} (hb : w.heap[b]? = some (.cells cur 4)) (hbb : base ≤ b) (hnew : b ∉ bs) {g : Nat → Nat → Bool} (hg : ∀ i k, i < bs.length → k < n → g i k = f i k) (hc : ∀ k, k < n → cur[k]? = some (.bool (g bs.length k)))
 (ad : Nat) (had : w.cell? ⟨ad, 0, none⟩ = some (.slice (some ⟨b, 0, none⟩) n n)) :
 ∃ oa c w', (Builtin.append_ #[97, 97] 97 #[v, .slice (some ⟨ad, 0, none⟩) 1 1]).run Tryz.prog w = .ok (.slice oa (bs.length + 1) c) w' ∧ TX w' base n (.slice oa (bs.length + 1) c) (bs ++ [b]) g ∧ Below base w w' ∧ (∀ (k : Nat) (d : Array Value) (s : TypeId), w.heap[k]? = some (.cells d s) → s ≠ 96 → w'.heap[k]? = some (.cells d s)) := by
 obtain ⟨i0, hi, hz0, hz1, hz2⟩ := info_parts info_lb
 obtain ⟨v', w6, hr, hown, hgrow, -⟩ := run_append_own (P := Tryz.prog) w base 97 97 96 i0 (.slice none 0 0) 1 24 Tryz.underlying97 hi hz0 hz1 hz2 rfl (by decide) _ _ _ t.own ⟨ad, 0, none⟩ 1 1 (rv n [b]) rfl (by
  intro j u hj
  have : j = 0 := by have := (List.getElem?_eq_some_iff.1 hj).1; simp [rv] at this; omega
  subst this
  simp [rv] at hj
  subst hj
  exact had) (rv_one n [b]) (by unfold maxLen; omega) (by omega) hbase
 rw [← rv_app] at hown
 have ho2 : w6.ownsRow base 96 1 v' (bs ++ [b]).length (rv n (bs ++ [b])) := by rw [List.length_append]; exact hown
 obtain ⟨oa, c, rfl⟩ := own_slice hown
 have hk : ∀ (k : Nat) (d : Array Value) (s : TypeId), w.heap[k]? = some (.cells d s) → s ≠ 96 → w6.heap[k]? = some (.cells d s) := fun k d s h hs => (hgrow.block k (heap_lt h) (own_other t.own h hs)).trans h
 refine ⟨oa, c, w6, hr, ⟨ho2, ?_, ?_⟩, (Below.refl base w).grown hgrow hbase (fun x hx => (t.own.lt x hx).1), hk⟩
 ·intro i d hd
  by_cases e : i < bs.length
  ·rw [List.getElem?_append_left e] at hd
   obtain ⟨h1, cr, h2, h3⟩ := t.row i d hd
   exact ⟨h1, cr, hk _ _ _ h2 (by decide), fun k hkn => by rw [hg i k e hkn]; exact h3 k hkn⟩
  ·rw [List.getElem?_append_right (by omega)] at hd
   have : i - bs.length = 0 := by have := (List.getElem?_eq_some_iff.1 hd).1; simp at this; omega
   rw [this] at hd
   simp at hd
   subst hd
   have hi2 : i = bs.length := by omega
   subst hi2
   exact ⟨hbb, cur, hk _ _ _ hb (by decide), hc⟩
 ·rw [List.nodup_append]
  refine ⟨t.nd, by simp, fun a ha b' hb' => ?_⟩
  simp at hb'
  subst hb'
  exact fun q => hnew (q ▸ ha)
def noF : Nat → Nat → Bool := fun _ _ => false
set_option maxRecDepth 100000 in
set_option maxHeartbeats 1600000 in
theorem rnew_ok (n : Nat) (h : n ≤ 1024) (w : World) :
 Calls Tryz.prog 45 #[.int .i64 (n : Int)] w fun e w' => e = .returned (.tuple #[.pointer (some ⟨w.heap.size, 0, none⟩), .int .i64 0]) ∧ (∃ v bs, RX w' w.heap.size w.heap.size n noF v bs) ∧ Below w.heap.size w w' := by
 have a1 : decide ((n : Int) < 0) = false := by simp
 have a2 : decide ((1024 : Int) < (n : Int)) = false := by simp; omega
 have HH := hide h
 obtain ⟨N, hN⟩ : ∃ N, w.heap.size = N := ⟨_, rfl⟩
 have HN := hide hN
 have h0 := heap_new w (.cells #[.slice none 0 0] 99)
 have b0 := below_alloc w (.cells #[.slice none 0 0] 99)
 rw [hN] at h0 b0 ⊢
 have H0 := hide h0
 have B0 := hide b0
 clear h0 b0
 go_enter Tryz.func45, Tryz.ntmps45
 go_wp2_with fail
 go_loopw [5] (fun i wr => ∃ (k : Nat) (v : Value) (bs : List Nat), k ≤ n ∧ i = .int .i64 (k : Int) ∧ bs.length = k ∧ wr.heap[N]? = some (.cells #[v] 99) ∧ TX wr N n v bs noF ∧ Below N w wr) (fun i _ => n - (intOf i).toNat)
 case atStart => exact ⟨0, _, [], Nat.zero_le _, rfl, rfl, H0.out, ⟨World.ownsRow_nil _ _ _ _, fun i b hb => by simp at hb, List.nodup_nil⟩, B0.out⟩
 case round =>
  obtain ⟨k, v, bs, hk, rfl, hlen, hhd, tx, bl⟩ := hrel
  by_cases hlt : k < n
  ·have hlt' : (k : Int) < (n : Int) := by omega
   obtain ⟨oa, c, rfl⟩ := own_slice tx.own
   have c0 : wr.cell? ⟨N, 0, none⟩ = some (.slice oa bs.length c) := by rw [cell_of hhd]; rfl
   have hsz : N ≤ wr.heap.size := Nat.le_of_lt (heap_lt hhd)
   have hN1 : N < wr.heap.size := heap_lt hhd
   have f0 := frozen_of hhd 0
   have mk : (Instr.makeSlice 96 (.int .i64 (n : Int)) (.int .i64 (n : Int))).run Tryz.prog wr.drew = .ok (.slice (some ⟨wr.heap.size, 0, none⟩) n n) (wr.drew.alloc (.cells (madeCells #[.bool false] n) 4)) := mk_b wr.drew n (by omega)
   obtain ⟨W1, hW1⟩ : ∃ W1, W1 = wr.drew.alloc (.cells (madeCells #[.bool false] n) 4) := ⟨_, rfl⟩
   have B1 : Below wr.heap.size wr W1 := by rw [hW1]; exact btr (bdrew1 wr) (below_alloc _ _)
   have S1 : W1.heap.size = wr.heap.size + 1 := by rw [hW1]; exact World.size_alloc _ _
   have R1 : W1.heap[wr.heap.size]? = some (.cells (madeCells #[.bool false] n) 4) := by rw [hW1]; exact heap_new wr.drew _
   have B2 := below_alloc W1 (.cells #[.slice (some ⟨wr.heap.size, 0, none⟩) n n] 96)
   have C2 : (W1.alloc (.cells #[.slice (some ⟨wr.heap.size, 0, none⟩) n n] 96)).cell? ⟨wr.heap.size + 1, 0, none⟩ = some (.slice (some ⟨wr.heap.size, 0, none⟩) n n) := by
    have := cell_new1 W1 (.slice (some ⟨wr.heap.size, 0, none⟩) n n) 96
    rw [S1] at this; exact this
   have T2 : TX (W1.alloc (.cells #[.slice (some ⟨wr.heap.size, 0, none⟩) n n] 96)) N n (.slice oa bs.length c) bs noF := (tx.keep fun k _ hk => B1.block k hk).keep fun k _ hk => B2.block k hk
   obtain ⟨oa', c', w6, hr, t6, b6, k6⟩ := T2.app (by omega) (by have := B1.size; have := B2.size; omega) (heap_below R1 B2) (by omega) (fun q => by
    obtain ⟨i, hi⟩ := List.getElem?_of_mem q
    obtain ⟨-, cur, hc, -⟩ := tx.row i _ hi
    have := heap_lt hc
    omega) (g := noF) (fun _ _ _ _ => rfl) (fun k hk => made_at _ _ _ hk) (wr.heap.size + 1) C2
   have HD6 := k6 N _ _ (heap_below (heap_below hhd B1) B2) (by decide)
   have c6 : w6.cell? ⟨N, 0, none⟩ = some (.slice oa bs.length c) := by rw [cell_of HD6]; rfl
   have f6 := frozen_of HD6 0
   have NXT : Hid (∀ u : World, u = w6.setCell ⟨N, 0, none⟩ (.slice oa' (bs.length + 1) c') → (u.heap[N]? = some (.cells #[.slice oa' (bs.length + 1) c'] 99) ∧ TX u N n (.slice oa' (bs.length + 1) c') (bs ++ [wr.heap.size]) noF ∧ Below N w u)) := by
    rintro u rfl
    refine ⟨Ba.heap_setCell_same HD6 _, ?_, ?_⟩
    ·refine ⟨⟨t6.own.1, ?_⟩, fun i b hb => ?_, t6.nd⟩
     ·rcases t6.own.2 with q | ⟨g, cap, cr, q1, q2, q3, q4⟩
      ·exact .inl q
      ·exact .inr ⟨g, cap, cr, q1, q2, (heap_set (ne_ty q3 HD6 (by decide))).trans q3, q4⟩
     ·obtain ⟨h1, cr, h2, h3⟩ := t6.row i b hb
      exact ⟨h1, cr, (heap_set (ne_ty h2 HD6 (by decide))).trans h2, h3⟩
    ·have q1 : Below N w w6 := ((bl.trans (B1.mono hsz)).trans (B2.mono (by omega))).trans b6
     exact q1.setCell (by simp) _
   rw [← hW1] at mk
   have HR := hide hr
   have HLEN := hide hlen
   clear hlen tx hhd bl B1 R1 B2 C2 T2 t6 b6 k6 HD6 hr hN
   have HW := hide hW1
   have y1 : W1.cell? ⟨N, 0, none⟩ = some (.slice oa bs.length c) := by rw [hW1]; exact (cellB c0 (btr (bdrew1 wr) (below_alloc _ _)))
   clear hW1
   go_wp2_with fail
   go_region_law (refine step_append_run _ (by rfl) _ _ _ _ (by rfl) _ _ (by rfl) (by rfl) _ _ HR.out ?_)
   all_goals
    go_wp2_with fail
    go_roundw
    case rel =>
     obtain ⟨x1, x2, x3⟩ := NXT.out _ rfl
     exact ⟨k + 1, _, bs ++ [wr.heap.size], by omega, by go_num, by rw [List.length_append, HLEN.out]; rfl, x1, x2, x3⟩
    case measure => simp [intOf]; omega
  ·have hlt' : ¬ ((k : Int) < (n : Int)) := by omega
   obtain rfl : k = n := by omega
   have END : Hid (RX wr N N k noF v bs ∧ Below N w wr) := ⟨⟨HH.out, hhd, Nat.le_refl _, tx, hlen⟩, bl⟩
   clear hlen tx hhd bl
   go_wp2_with fail
   go_ret2
   exact ⟨rfl, ⟨v, bs, END.out.1⟩, END.out.2⟩
end Mx
end Go.Proofs.YtblfimobiibmjaaGreat
namespace Go.Proofs.YtblfimobiibmjaaGreat
open Go.ChangeShapes Go.WideShapes Go.ChangeAt Go.RowKit
namespace Mx
open Ba (KB btr heap_lt cell_of frozen_of ret_bool ret_int bdrew bdrew1 heap_new below_alloc heap_below own_below)
def OB (w : World) (O n : Nat) (o : Nat → Bool) : Prop := ∃ cur, w.heap[O]? = some (.cells cur 4) ∧ ∀ k, k < n → cur[k]? = some (.bool (o k))
theorem OB.cell {w : World} {O n : Nat} {o : Nat → Bool} (h : OB w O n o) {k : Nat} (hk : k < n) : w.cell? ⟨O, k, none⟩ = some (.bool (o k)) := by
 obtain ⟨cur, h1, h2⟩ := h
 exact (cell_of h1 k).trans (h2 k hk)
theorem OB.frz {w : World} {O n : Nat} {o : Nat → Bool} (h : OB w O n o) (k : Nat) : w.frozen? ⟨O, k, none⟩ = false := by
 obtain ⟨cur, h1, h2⟩ := h
 exact frozen_of h1 k
theorem OB.put {w : World} {O n : Nat} {o : Nat → Bool} (h : OB w O n o) {k : Nat} (hk : k < n) (z : Bool) {g : Nat → Bool} (hg : ∀ a, a < n → g a = if a = k then z else o a) : OB (w.setCell ⟨O, k, none⟩ (.bool z)) O n g := by
 obtain ⟨cur, h1, h2⟩ := h
 refine ⟨_, Ba.heap_setCell_same h1 _, fun y hy => ?_⟩
 rw [Array.getElem?_setIfInBounds, hg y hy]
 have hcs : k < cur.size := (Array.getElem?_eq_some_iff.1 (h2 k hk)).1
 by_cases e2 : k = y
 ·subst e2; simp [hcs]
 ·have e3 : ¬ (y = k) := fun q => e2 q.symm
  simp only [e2, if_false, e3]
  exact h2 y hy
theorem OB.congr {w : World} {O n : Nat} {o g : Nat → Bool} (h : OB w O n o) (hg : ∀ a, a < n → g a = o a) : OB w O n g := by
 obtain ⟨cur, h1, h2⟩ := h
 exact ⟨cur, h1, fun k hk => by rw [hg k hk]; exact h2 k hk⟩
def mix (k : Nat) (g o : Nat → Bool) : Nat → Bool := fun a => if a < k then g a else o a
theorem mix_zero (g o : Nat → Bool) : mix 0 g o = o := by funext a; simp [mix]
theorem mix_at (k : Nat) (g o : Nat → Bool) : mix k g o k = o k := by simp [mix]
theorem mix_succ (k : Nat) (g o : Nat → Bool) (a : Nat) : mix (k + 1) g o a = if a = k then g k else mix k g o a := by
 unfold mix
 by_cases e : a = k
 ·subst e; simp
 ·rw [if_neg e]
  by_cases h : a < k
  ·rw [if_pos h, if_pos (by omega)]
  ·rw [if_neg h, if_neg (by omega)]
theorem mix_full (n : Nat) (g o : Nat → Bool) (a : Nat) (h : a < n) : g a = mix n g o a := by simp [mix, h]
set_option maxRecDepth 100000 in
set_option maxHeartbeats 3200000 in
theorem from_any {w : World} {base G n : Nat} {f : Nat → Nat → Bool} {v : Value} {bs : List Nat} (x : RX w base G n f v bs) (i : Nat) (hi : i < n) :
 Calls Tryz.prog 85 #[.pointer (some ⟨G, 0, none⟩), .int .i64 (i : Int)] w fun e w' => e = .returned (.slice (some ⟨w.heap.size, 0, none⟩) n n) ∧ OB w' w.heap.size n (rnds f n (f i) n) ∧ Below w.heap.size w w' := by
 have hle := x.le
 obtain ⟨oa, c, rfl⟩ := x.slice
 have c0 : w.cell? ⟨G, 0, none⟩ = some (.slice oa n c) := by rw [cell_of x.hd]; rfl
 have ROW : Hid (∀ (u : World), Below w.heap.size w u → u.cell? ⟨G, 0, none⟩ = some (.slice oa n c) ∧ ∀ j, j < n → ∃ g b, oa = some ⟨g, 0, none⟩ ∧ u.cell? ⟨g, j, none⟩ = some (.slice (some ⟨b, 0, none⟩) n n) ∧ ∀ k, k < n → u.cell? ⟨b, k, none⟩ = some (.bool (f j k))) := fun u b => by
  refine ⟨cellB c0 b, fun j hj => ?_⟩
  obtain ⟨g, bb, cur, h1, h2, -, -, -, h3⟩ := x.at hj
  exact ⟨g, bb, h1, cellB h2 b, fun k hk => cellB (h3 k hk) b⟩
 have mk := mk_b w n (by omega)
 have O0 : Hid (OB (w.alloc (.cells (madeCells #[.bool false] n) 4)) w.heap.size n (fun _ => false)) := ⟨_, heap_new _ _, fun k hk => made_at _ _ _ hk⟩
 have B0 := hide (below_alloc w (.cells (madeCells #[.bool false] n) 4))
 have y0 := (ROW.out _ B0.out).1
 clear x
 obtain ⟨N, hN⟩ : ∃ N, w.heap.size = N := ⟨_, rfl⟩
 rw [hN] at ROW mk O0 B0 ⊢
 have HN := hide hN
 clear hN
 generalize w.alloc (.cells (madeCells #[.bool false] n) 4) = WA at *
 go_enter Tryz.func85, Tryz.ntmps85
 go_wp2_with fail
 go_loopw [21] (fun s wr => ∃ k : Nat, k ≤ n ∧ s = .int .i64 (k : Int) ∧ OB wr N n (mix k (f i) (fun _ => false)) ∧ Below N w wr) (fun s _ => n - (intOf s).toNat)
 case atStart => exact ⟨0, Nat.zero_le _, rfl, by rw [mix_zero]; exact O0.out, B0.out⟩
 case round =>
  obtain ⟨k, hk, rfl, ob, bl⟩ := hrel
  have OBH := hide ob
  have BLH := hide bl
  by_cases hlt : k < n
  ·have hlt' : (k : Int) < (n : Int) := by omega
   have hi' : (i : Int) < (n : Int) := by omega
   obtain ⟨z0, z1⟩ := ROW.out _ bl
   obtain ⟨g, b, rfl, z2, z3⟩ := z1 i hi
   have z4 := z3 k hlt
   have z5 := ob.cell hlt
   have z6 := ob.frz k
   have NX : Hid (OB (wr.setCell ⟨N, k, none⟩ (.bool (f i k))) N n (mix (k + 1) (f i) (fun _ => false))) := ob.put hlt _ (fun a _ => mix_succ _ _ _ _)
   have NB : Hid (Below N w (wr.setCell ⟨N, k, none⟩ (.bool (f i k)))) := bl.setCell (by simp) _
   generalize f i k = z at *
   clear ob bl z1 z3 mk c0 y0
   go_wp2_with fail
   go_roundw
   case rel => exact ⟨k + 1, by omega, by go_num, NX.out, NB.out⟩
   case measure => simp [intOf]; omega
  ·have hlt' : ¬ ((k : Int) < (n : Int)) := by omega
   obtain rfl : n = k := by omega
   have z0 := (ROW.out _ bl).1
   have O1 : Hid (OB wr N n (rnds f n (f i) 0)) := ob.congr (fun a ha => mix_full n _ _ a ha)
   clear ob bl mk c0 y0 O0 B0 hk OBH
   go_wp2_with fail
   clear z0
   rename World => w9
   go_loopw [7] (fun s wr => ∃ m : Nat, m ≤ n ∧ s = .int .i64 (m : Int) ∧ OB wr N n (rnds f n (f i) m) ∧ Below N w wr) (fun s _ => n - (intOf s).toNat)
   case atStart => exact ⟨0, Nat.zero_le _, rfl, O1.out, BLH.out⟩
   case round =>
    obtain ⟨m, hm, rfl, ob, bl⟩ := hrel
    clear O1 BLH
    have OBH := hide ob
    have BLH := hide bl
    have z0 := (ROW.out _ bl).1
    by_cases hltm : m < n
    ·have hltm' : (m : Int) < (n : Int) := by omega
     have NXT : Hid (rnds f n (f i) (m + 1) = rnd f (rnds f n (f i) m) n) := rfl
     clear ob bl
     generalize rnds f n (f i) m = q at *
     go_wp2_with fail
     clear z0
     rename World => w8
     go_loopw [52] (fun s wr => ∃ j : Nat, j ≤ n ∧ s = .int .i64 (j : Int) ∧ OB wr N n (rnd f q j) ∧ Below N w wr) (fun s _ => n - (intOf s).toNat)
     case atStart => exact ⟨0, Nat.zero_le _, rfl, OBH.out, BLH.out⟩
     case round =>
      obtain ⟨j, hj, rfl, ob, bl⟩ := hrel
      clear OBH BLH
      have OBH := hide ob
      have BLH := hide bl
      obtain ⟨z0, z1⟩ := ROW.out _ bl
      by_cases hltj : j < n
      ·have hltj' : (j : Int) < (n : Int) := by omega
       have z5 := ob.cell hltj
       have SU : Hid (rnd f q (j + 1) = gos f (rnd f q j) j) := rfl
       clear ob bl
       generalize rnd f q j = p at *
       cases hp : p j
       ·rw [hp] at z5
        have SU2 : Hid (rnd f q (j + 1) = p) := by
         show _ = _
         rw [SU.out]
         funext a
         simp [gos, hp]
        clear hp SU z1
        go_wp2_with fail
        go_roundw
        case rel => exact ⟨j + 1, by omega, by go_num, by rw [SU2.out]; exact OBH.out, BLH.out⟩
        case measure => simp [intOf]; omega
       ·rw [hp] at z5
        have SU2 : Hid (∀ a, rnd f q (j + 1) a = (p a || f j a)) := by
         intro a
         rw [SU.out]
         simp [gos, hp]
        clear hp SU z1
        go_wp2_with fail
        clear z0 z5
        rename World => w7
        go_loopw [65] (fun s wr => ∃ k : Nat, k ≤ n ∧ s = .int .i64 (k : Int) ∧ OB wr N n (mix k (rnd f q (j + 1)) p) ∧ Below N w wr) (fun s _ => n - (intOf s).toNat)
        case atStart => exact ⟨0, Nat.zero_le _, rfl, by rw [mix_zero]; exact OBH.out, BLH.out⟩
        case round =>
         obtain ⟨k, hk, rfl, ob, bl⟩ := hrel
         clear OBH BLH
         have OBH := hide ob
         have BLH := hide bl
         by_cases hlt : k < n
         ·have hlt' : (k : Int) < (n : Int) := by omega
          obtain ⟨z0, z1⟩ := ROW.out _ bl
          obtain ⟨g, b, rfl, z2, z3⟩ := z1 j hltj
          have z4 := z3 k hlt
          have z5 := ob.cell hlt
          rw [mix_at] at z5
          have z6 := ob.frz k
          have NX : Hid (OB (wr.setCell ⟨N, k, none⟩ (.bool (p k || f j k))) N n (mix (k + 1) (rnd f q (j + 1)) p)) := ob.put hlt _ (fun a _ => by rw [mix_succ, SU2.out k])
          have NB : Hid (Below N w (wr.setCell ⟨N, k, none⟩ (.bool (p k || f j k)))) := bl.setCell (by simp) _
          clear ob bl z1 z3
          generalize f j k = z at *
          cases hp : p k
          ·rw [hp] at z5 NX NB
           rw [Bool.false_or] at NX NB
           clear hp
           go_wp2_with fail
           go_roundw
           case rel => exact ⟨k + 1, by omega, by go_num, NX.out, NB.out⟩
           case measure => simp [intOf]; omega
          ·rw [hp] at z5 NX NB
           rw [Bool.true_or] at NX NB
           clear hp
           go_wp2_with fail
           go_roundw
           case rel => exact ⟨k + 1, by omega, by go_num, NX.out, NB.out⟩
           case measure => simp [intOf]; omega
         ·have hlt' : ¬ ((k : Int) < (n : Int)) := by omega
          obtain rfl : n = k := by omega
          have O1 : Hid (OB wr N n (rnd f q (j + 1))) := ob.congr (fun a ha => mix_full n _ _ a ha)
          clear ob bl
          go_wp2_with fail
          go_roundw
          case rel => exact ⟨j + 1, by omega, by go_num, O1.out, BLH.out⟩
          case measure => simp [intOf]; omega
      ·have hltj' : ¬ ((j : Int) < (n : Int)) := by omega
       obtain rfl : n = j := by omega
       clear ob bl z1
       go_wp2_with fail
       go_roundw
       case rel => exact ⟨m + 1, by omega, by go_num, by rw [NXT.out]; exact OBH.out, BLH.out⟩
       case measure => simp [intOf]; omega
    ·have hltm' : ¬ ((m : Int) < (n : Int)) := by omega
     obtain rfl : n = m := by omega
     clear ob bl
     go_wp2_with fail
     go_ret
     exact ⟨rfl, OBH.out, BLH.out⟩
end Mx
end Go.Proofs.YtblfimobiibmjaaGreat
namespace Go.Proofs.YtblfimobiibmjaaGreat
open Go.ChangeShapes Go.WideShapes Go.ChangeAt Go.RowKit
namespace Mx
open Ba (KB btr heap_lt cell_of frozen_of ret_bool ret_int bdrew bdrew1 heap_new below_alloc heap_below own_below)
set_option maxRecDepth 100000 in
set_option maxHeartbeats 3200000 in
theorem rclose_any {w : World} {base G n : Nat} {f : Nat → Nat → Bool} {v : Value} {bs : List Nat} (x : RX w base G n f v bs) (hbase : base ≤ w.heap.size) :
 Calls Tryz.prog 47 #[.pointer (some ⟨G, 0, none⟩)] w fun e w' => e = .returned (.tuple #[]) ∧ (∃ v' bs', RX w' base G n (fun i => rnds f n (f i) n) v' bs') ∧ Below base w w' ∧ KB G w w' := by
 have hle := x.le
 obtain ⟨oa, c, rfl⟩ := x.slice
 have hGs := heap_lt x.hd
 have c0 : w.cell? ⟨G, 0, none⟩ = some (.slice oa n c) := by rw [cell_of x.hd]; rfl
 have XH := hide (fun u (b : Below w.heap.size w u) => x.below b)
 have HB := hide hbase
 have HGB := hide x.gb
 clear x
 obtain ⟨N, hN⟩ : ∃ N, w.heap.size = N := ⟨_, rfl⟩
 have HN := hide hN
 rw [hN] at XH hGs HB
 clear hN
 go_enter Tryz.func47, Tryz.ntmps47
 go_wp2_with fail
 go_loopw [2, 9] (fun s i wr => ∃ (k : Nat) (u : Value) (ds : List Nat), k ≤ n ∧ i = .int .i64 (k : Int) ∧ s = u ∧ ds.length = k ∧ TX wr N n u ds (fun i => rnds f n (f i) n) ∧ Below N w wr) (fun _ i _ => n - (intOf i).toNat)
 case atStart => exact ⟨0, _, [], Nat.zero_le _, rfl, rfl, rfl, ⟨World.ownsRow_nil _ _ _ _, fun i b hb => by simp at hb, List.nodup_nil⟩, by rw [← HN.out]; exact Below.refl _ _⟩
 case round =>
  obtain ⟨k, u, ds, hk, rfl, rfl, hlen, tx, bl⟩ := hrel
  obtain ⟨oe, ce, rfl⟩ := own_slice tx.own
  by_cases hlt : k < n
  ·have hlt' : (k : Int) < (n : Int) := by omega
   have FR := hide (from_any (XH.out _ bl) k hlt)
   have hsz : N ≤ wr.heap.size := by have := bl.size; rw [HN.out] at this; exact this
   have NXT : Hid (∀ w1, OB w1 wr.heap.size n (rnds f n (f k) n) → Below wr.heap.size wr w1 → ∃ oa' c' w6, (Builtin.append_ #[97, 97] 97 #[.slice oe ds.length ce, .slice (some ⟨w1.heap.size, 0, none⟩) 1 1]).run Tryz.prog (w1.alloc (.cells #[.slice (some ⟨wr.heap.size, 0, none⟩) n n] 96)) = .ok (.slice oa' (ds.length + 1) c') w6 ∧ TX w6 N n (.slice oa' (ds.length + 1) c') (ds ++ [wr.heap.size]) (fun i => rnds f n (f i) n) ∧ Below N w w6) := by
    rintro w1 ⟨cur, o1, o2⟩ b1
    have B2 := below_alloc w1 (.cells #[.slice (some ⟨wr.heap.size, 0, none⟩) n n] 96)
    have T2 := (tx.keep fun k _ hk => b1.block k hk).keep fun k _ hk => B2.block k hk
    obtain ⟨oa', c', w6, hr, t6, b6, -⟩ := T2.app (by omega) (by have := b1.size; have := B2.size; omega) (heap_below o1 B2) hsz (fun q => by
     obtain ⟨i, hi⟩ := List.getElem?_of_mem q
     obtain ⟨-, cur, hc, -⟩ := tx.row i _ hi
     have := heap_lt hc
     omega) (g := fun i => rnds f n (f i) n) (fun _ _ _ _ => rfl) (fun j hj => by rw [hlen]; exact o2 j hj) w1.heap.size (cell_new1 w1 _ _)
    exact ⟨oa', c', w6, hr, t6, ((bl.trans (b1.mono hsz)).trans (B2.mono (by have := b1.size; omega))).trans b6⟩
   have HLEN := hide hlen
   clear hlen tx bl
   go_wp2_with fail
   refine FR.out.mono ?_
   rintro e w1 ⟨rfl, o1, b1⟩
   obtain ⟨oa', c', w6, hr, t6, b6⟩ := NXT.out w1 o1 b1
   have HR := hide hr
   have T6 := hide t6
   have B6 := hide b6
   clear hr t6 b6 o1 b1 NXT FR
   go_wp2_with (at_builtin; refine Lib.wpList_append_run _ rfl _ _ 97 97 rfl _ _ rfl rfl _ _ HR.out ?_)
   go_wp2_with fail
   go_roundw
   case rel => exact ⟨k + 1, _, ds ++ [wr.heap.size], by omega, by go_num, rfl, by rw [List.length_append, HLEN.out]; rfl, T6.out, B6.out⟩
   case measure => simp [intOf]; omega
  ·have hlt' : ¬ ((k : Int) < (n : Int)) := by omega
   obtain rfl : n = k := by omega
   have hd := (XH.out _ bl).hd
   have c1 : wr.cell? ⟨G, 0, none⟩ = some (.slice oa n c) := by rw [cell_of hd]; rfl
   have f1 := frozen_of hd 0
   have END : Hid (RX (wr.setCell ⟨G, 0, none⟩ (.slice oe ds.length ce)) base G n (fun i => rnds f n (f i) n) (.slice oe ds.length ce) ds ∧ Below base w (wr.setCell ⟨G, 0, none⟩ (.slice oe ds.length ce)) ∧ KB G w (wr.setCell ⟨G, 0, none⟩ (.slice oe ds.length ce))) := by
    refine ⟨⟨hle, Ba.heap_setCell_same hd _, HGB.out, ⟨⟨?_, ?_⟩, fun i b hb => ?_, tx.nd⟩, hlen⟩, ?_, (KB.of (by rw [HN.out]; exact bl)).setCell 0 _⟩
    ·exact tx.own.1
    ·rcases tx.own.2 with q | ⟨g, cap, cr, q1, q2, q3, q4⟩
     ·exact .inl q
     ·exact .inr ⟨g, cap, cr, q1, Nat.le_trans HB.out q2, (heap_set (ne_ty q3 hd (by decide))).trans q3, q4⟩
    ·obtain ⟨h1, cr, h2, h3⟩ := tx.row i b hb
     exact ⟨Nat.le_trans HB.out h1, cr, (heap_set (ne_ty h2 hd (by decide))).trans h2, h3⟩
    ·exact (bl.mono HB.out).setCell (by exact HGB.out) _
   clear hlen tx bl hd
   go_wp2_with fail
   go_end0
   exact ⟨rfl, ⟨_, _, END.out.1⟩, END.out.2⟩
end Mx
end Go.Proofs.YtblfimobiibmjaaGreat
namespace Go.Proofs.YtblfimobiibmjaaGreat
open Go.ChangeShapes Go.WideShapes Go.ChangeAt Go.RowKit
namespace Mx
open Ba (KB btr heap_lt cell_of frozen_of ret_bool ret_int bdrew bdrew1 heap_new below_alloc heap_below own_below nth)
section
variable {H : Type} {enc : TypeId × Value → H} {w : World}
end
end Mx
end Go.Proofs.YtblfimobiibmjaaGreat
namespace Go.Proofs.YtblfimobiibmjaaGreat
open Go.ChangeShapes Go.WideShapes Go.ChangeAt Go.RowKit
namespace Mx
open Ba (KB btr heap_lt cell_of frozen_of ret_bool ret_int bdrew bdrew1 heap_new below_alloc heap_below own_below nth)
end Mx
end Go.Proofs.YtblfimobiibmjaaGreat
namespace Go.Proofs.YtblfimobiibmjaaGreat
open Go.ChangeShapes Go.WideShapes Go.ChangeAt Go.RowKit
namespace Mx
open Ba (KB btr heap_lt cell_of frozen_of ret_bool ret_int bdrew bdrew1 heap_new below_alloc heap_below own_below nth)
end Mx
end Go.Proofs.YtblfimobiibmjaaGreat
namespace Go.Proofs.YtblfimobiibmjaaGreat
open Go.ChangeShapes Go.WideShapes Go.ChangeAt Go.RowKit
namespace Mx
open Ba (KB btr heap_lt cell_of frozen_of ret_bool ret_int bdrew bdrew1 heap_new below_alloc heap_below own_below nth)
theorem RX.congr {w : World} {base G n : Nat} {f g : Nat → Nat → Bool} {v : Value} {bs : List Nat} (x : RX w base G n f v bs) (h : ∀ i k, i < n → k < n → g i k = f i k) : RX w base G n g v bs :=
 ⟨x.le, x.hd, x.gb, ⟨x.tx.own, fun i b hb => by
   obtain ⟨h1, cur, h2, h3⟩ := x.tx.row i b hb
   have hi : i < n := by rw [← x.len]; exact (List.getElem?_eq_some_iff.1 hb).1
   exact ⟨h1, cur, h2, fun k hk => by rw [h i k hi hk]; exact h3 k hk⟩, x.tx.nd⟩, x.len⟩
theorem hs_setR (n : Nat) (r : Rws) (i k : Int) : (if inB n i k then setF (hs r) i.toNat k.toNat else hs r) = hs (setR n r i k) := by
 unfold setR
 cases h : inB n i k
 ·have : ¬ (0 ≤ i ∧ i < (n : Int) ∧ 0 ≤ k ∧ k < (n : Int)) := fun q => by
   have : inB n i k = true := (inB_iff n i k).2 (by omega)
   rw [h] at this; cases this
  rw [if_neg this]; simp
 ·have := (inB_iff n i k).1 h
  rw [if_pos rfl, if_pos (show 0 ≤ i ∧ i < (n : Int) ∧ 0 ≤ k ∧ k < (n : Int) by omega)]
  funext a b
  rw [hs_set1]; rfl
end Mx
end Go.Proofs.YtblfimobiibmjaaGreat
namespace Go.Proofs.YtblfimobiibmjaaGreat
open Go.ChangeShapes Go.WideShapes Go.ChangeAt Go.RowKit
namespace Eg
open En Gu Ba
theorem chk_right {l : List Ev} {n a : Int} (h : Chk l n a) : (n = 0 ∨ (n = 4 ∧ a = (l.length : Int))) ↔ tokB l = true := by
 rw [← chk_tok h]
 rcases h with ⟨i, e, he, hn, rfl, rfl, -⟩ | ⟨ha, hr⟩
 ·have hi := (List.getElem?_eq_some_iff.1 he).1
  simp [hn]
  omega
 ·split at hr <;> cases hr <;> simp
set_option maxRecDepth 100000 in
set_option maxHeartbeats 1600000 in
theorem right_any24 (oa : Option Addr) (l : List Ev) (c : Nat) (w : World) (hA : EsAt w oa l) (hl : l.length ≤ 2000) (hc : l.length ≤ c) :
 Calls Tryz.prog 11 #[.slice oa l.length c] w fun r w' => r = .returned (.bool (tokB l)) ∧ Below w.heap.size w w' := by
 have CK := hide (rcheck14_any oa l c w hA hl hc)
 have CR := hide (fun n a (q : Chk l n a) => chk_right q)
 obtain ⟨M, hM⟩ : ∃ M, l.length = M := ⟨_, rfl⟩
 rw [hM] at CK CR ⊢
 clear hA hM hl hc
 go_enter Tryz.func11, Tryz.ntmps11
 go_wp2_with fail
 refine CK.out.mono ?_
 rintro r w1 ⟨⟨n, a, rfl, hc⟩, b1⟩
 have T := CR.out n a hc
 have B1 := hide (btr b1 (below_alloc w1 (.cells #[.int .i64 n, .int .i64 a] 77)))
 clear hc b1 CK CR
 by_cases h0 : n = 0
 ·have q0 : (n == 0) = true := by simp [h0]
  have T2 := hide (T.1 (.inl h0))
  clear h0 T
  go_wp2_with fail
  go_ret
  exact ⟨by rw [T2.out]; rfl, B1.out⟩
 ·have q0 : (n == 0) = false := by simp [h0]
  by_cases h4 : n = 4
  ·have q4 : (n == 4) = true := by simp [h4]
   by_cases h1 : a = (M : Int)
   ·have q1 : (a == (M : Int)) = true := by simp [h1]
    have T2 := hide (T.1 (.inr ⟨h4, h1⟩))
    clear h0 h4 h1 T
    go_wp2_with fail
    go_ret
    exact ⟨by rw [T2.out]; rfl, B1.out⟩
   ·have q1 : (a == (M : Int)) = false := by simp [h1]
    have T2 : Hid (tokB l = false) := by
     show tokB l = false
     cases q : tokB l
     ·rfl
     ·rcases T.2 q with z | z
      ·exact absurd z h0
      ·exact absurd z.2 h1
    clear h0 h4 h1 T
    go_wp2_with fail
    go_ret
    exact ⟨by rw [T2.out]; rfl, B1.out⟩
  ·have q4 : (n == 4) = false := by simp [h4]
   have T2 : Hid (tokB l = false) := by
    show tokB l = false
    cases q : tokB l
    ·rfl
    ·rcases T.2 q with z | z
     ·exact absurd z h0
     ·exact absurd z.1 h4
   clear h0 h4 T
   go_wp2_with fail
   go_ret
   exact ⟨by rw [T2.out]; rfl, B1.out⟩
theorem drew_more {w wr : World} {m n : Nat} (h : wr = w.drewN m) : wr.drewN n = w.drewN (m + n) := by
 rw [h]
 simp [World.drewN, Nat.add_assoc]
set_option maxRecDepth 100000 in
set_option maxHeartbeats 3200000 in
theorem rbegins_any (oa : Option Addr) (l : List Ev) (cp i : Nat) (w : World) (hE : Gu.EsAt w oa l) (h : Tok l) (hi : i < l.length) (hl : l.length ≤ 1000000) :
 Calls Tryz.prog 16 #[.slice oa l.length cp, .int .i64 (i : Int)] w fun r w' => r = .returned (.int .i64 (bg l i : Int)) ∧ ∃ m, w' = w.drewN m := by
 obtain ⟨x, hx⟩ : ∃ x, l[i]? = some x := ⟨_, List.getElem?_eq_getElem hi⟩
 obtain ⟨b, off, rfl, -⟩ := hE i x hx
 have HE := hide hE
 have i0 : (0 : Int) ≤ (i : Int) := by omega
 have i1 : (i : Int) < (l.length : Int) := by omega
 by_cases k7 : x.k = 7
 ·obtain ⟨p, y, e1, e2, e3, e4, e5, e6⟩ := bg_wake h hx k7
  rw [e1]
  have LAST := hide (pk_last e3)
  have PY := hide e4
  have PK := hide (And.intro e5 e6)
  have HX := hide hx
  obtain ⟨z0, z1, -⟩ := hE.read hx
  have kk : (x.k != 7) = false := by simp [k7]
  have hi1 : 1 ≤ i := by omega
  obtain ⟨i', hi'⟩ : ∃ i', i = i' + 1 := ⟨i - 1, by omega⟩
  have im : (i : Int) - 1 = (i' : Int) := by omega
  have HI' := hide hi'
  have hpi : p ≤ i' := by omega
  clear hE h hx e1 e3 e4 e5 e6 k7 hi'
  go_enter Tryz.func16, Tryz.ntmps16
  go_wp2_with fail
  go_loopw [5] (fun iv wr => ∃ k : Nat, p ≤ k ∧ k ≤ i' ∧ iv = .int .i64 k ∧ ∃ m, wr = w.drewN m) (fun iv _ => (intOf iv).toNat)
  case atStart => exact ⟨i', hpi, Nat.le_refl _, rfl, 0, rfl⟩
  case round =>
   obtain ⟨k, hk1, hk2, rfl, m, hm⟩ := hrel
   have hb : Below w.heap.size w wr := by rw [hm]; exact bdrew _ _
   have HM := hide hm
   have hkl : k < l.length := by have := HI'.out; omega
   obtain ⟨e, he⟩ : ∃ e, l[k]? = some e := ⟨_, List.getElem?_eq_getElem hkl⟩
   obtain ⟨y0, y1, -⟩ := (HE.out.below hb).read he
   obtain ⟨x0, x1, -⟩ := (HE.out.below hb).read HX.out
   have k0 : (0 : Int) ≤ (k : Int) := by omega
   have k1 : (k : Int) < (l.length : Int) := by omega
   have g0 : decide ((k : Int) ≥ 0) = true := by simp
   have HEE := hide he
   clear hb hm he z0 z1 hkl
   by_cases hkp : k = p
   ·have ee : Hid (e = y) := by
     have q := HEE.out
     rw [hkp, PY.out] at q
     show e = y
     cases q
     rfl
    have c1 : (e.k == 6) = true := by rw [ee.out]; simp [PK.out.1]
    have c2 : (e.g == x.g) = true := by rw [ee.out]; simp [PK.out.2]
    have HKP := hide hkp
    clear hkp
    go_wp2_with fail
    go_quiet (fail)
    go_wp2_with fail
    go_ret
    exact ⟨by (rw [← HKP.out]) <;> rfl, _, drew_more HM.out⟩
   ·have hno : ¬ (e.k = 6 ∧ e.g = x.g) := LAST.out k e (by omega) (by have := HI'.out; omega) HEE.out
    have hk3 : 1 ≤ k := by omega
    by_cases h6 : e.k = 6
    ·have c1 : (e.k == 6) = true := by simp [h6]
     have c2 : (e.g == x.g) = false := by
      simp
      exact fun z => hno ⟨h6, z⟩
     clear h6 hno
     go_wp2_with fail
     go_quiet (fail)
     go_wp2_with fail
     go_roundw
     case rel => exact ⟨k - 1, by omega, by omega, by go_num, _, drew_more HM.out⟩
     case measure => simp [intOf]; omega
    ·have c1 : (e.k == 6) = false := by simp [h6]
     clear h6 hno
     go_wp2_with fail
     go_quiet (fail)
     go_wp2_with fail
     go_roundw
     case rel => exact ⟨k - 1, by omega, by omega, by go_num, _, drew_more HM.out⟩
     case measure => simp [intOf]; omega
 ·have e0 : bg l i = i := by
   unfold bg
   rw [hx]
   simp [k7]
  rw [e0]
  have kk : (x.k != 7) = true := by simp [k7]
  obtain ⟨z0, -⟩ := hE.read hx
  clear hE h hx k7 e0
  go_enter Tryz.func16, Tryz.ntmps16
  go_wp2_with fail
  go_ret
  exact ⟨rfl, 0, rfl⟩
end Eg
end Go.Proofs.YtblfimobiibmjaaGreat
namespace Go.Proofs.YtblfimobiibmjaaGreat
open Go.ChangeShapes Go.WideShapes Go.ChangeAt Go.RowKit
namespace Eg
open En Gu Ba
theorem sz_none {l : List Ev} {c : Int} (h : ∀ (j : Nat) e, l[j]? = some e → ¬ (e.c = c ∧ e.k = 2)) : ∀ n, n ≤ l.length → (inn l n c).size = 0
 | 0, _ => rfl
 | n + 1, hn => by
   obtain ⟨e, he⟩ : ∃ e, l[n]? = some e := ⟨_, List.getElem?_eq_getElem (by omega)⟩
   rw [size_next he, if_neg (h n e he)]
   exact sz_none h n (by omega)
theorem sz_make {l : List Ev} (h : Tok l) {k : Nat} {e : Ev} (he : l[k]? = some e) (h2 : e.k = 2) : ∀ n, k < n → n ≤ l.length → (inn l n e.c).size = e.v
 | 0, hk, _ => by omega
 | n + 1, hk, hn => by
   obtain ⟨x, hx⟩ : ∃ x, l[n]? = some x := ⟨_, List.getElem?_eq_getElem (by omega)⟩
   rw [size_next hx]
   by_cases e1 : n = k
   ·subst e1
    rw [he] at hx
    cases hx
    rw [if_pos ⟨rfl, h2⟩]
   ·rw [if_neg]
    ·exact sz_make h he h2 n (by omega) (by omega)
    ·rintro ⟨q1, q2⟩
     have m1 := (h.make he).1 h2
     have m2 := (h.make hx).1 q2
     have m3 := mkN_mono l (i := k + 1) (j := n) (by omega)
     rw [mkN_take he, if_pos h2] at m3
     omega
set_option maxRecDepth 100000 in
set_option maxHeartbeats 3200000 in
theorem rsize_any (oa : Option Addr) (l : List Ev) (cp c : Nat) (w : World) (hA : EsAt w oa l) (h : Tok l) (hl : l.length ≤ 2000) :
 Calls Tryz.prog 134 #[.slice oa l.length cp, .int .i64 (c : Int)] w fun r w' => r = .returned (.int .i64 (szF l (c : Int) : Int)) ∧ Below w.heap.size w w' := by
 have HA := hide hA
 have MK := hide (fun (k : Nat) (e : Ev) (he : l[k]? = some e) (h2 : e.k = 2) (hc : e.c = (c : Int)) => (show e.v = (szF l (c : Int) : Int) by
  have q1 := sz_make h he h2 l.length (List.getElem?_eq_some_iff.1 he).1 (Nat.le_refl _)
  have q2 := (sz_is h c).1
  unfold szK at q2
  rw [hc] at q1
  rw [← q2, q1]))
 have NO := hide (fun (q : ∀ (j : Nat) e, l[j]? = some e → ¬ (e.c = (c : Int) ∧ e.k = 2)) => (show (szF l (c : Int) : Int) = 0 by
  have q1 := sz_none q l.length (Nat.le_refl _)
  have q2 := (sz_is h c).1
  unfold szK at q2
  rw [← q2, q1]))
 obtain ⟨z, hz⟩ : ∃ z, (szF l (c : Int) : Int) = z := ⟨_, rfl⟩
 rw [hz] at MK NO ⊢
 obtain ⟨L, hL⟩ : ∃ L, l.length = L := ⟨_, rfl⟩
 have HL := hide hL
 rw [hL] at hl ⊢
 clear hA h hz hL
 go_enter Tryz.func134, Tryz.ntmps134
 go_wp2_with fail
 go_loopw [9] (fun iv wr => ∃ k : Nat, k ≤ L ∧ iv = .int .i64 k ∧ Below w.heap.size w wr ∧ ∀ (j : Nat) e, j < k → l[j]? = some e → ¬ (e.c = (c : Int) ∧ e.k = 2)) (fun iv _ => L - (intOf iv).toNat)
 case atStart => exact ⟨0, Nat.zero_le _, rfl, Below.refl _ _, fun j e hj => absurd hj (Nat.not_lt_zero _)⟩
 case round =>
  obtain ⟨k, hk, rfl, hb, hno⟩ := hrel
  have HB := hide hb
  have HNO := hide hno
  have EA := hide (HA.out.below hb)
  clear hb hno
  by_cases hlt : k < L
  ·have hlt' : (k : Int) < (L : Int) := by omega
   have k0 : (0 : Int) ≤ (k : Int) := by omega
   obtain ⟨e, he⟩ : ∃ e, l[k]? = some e := ⟨_, List.getElem?_eq_getElem (by rw [HL.out]; omega)⟩
   obtain ⟨bb, oo, rfl, -⟩ := EA.out k e he
   obtain ⟨p0, p1, p2, p3, p4, p5, p6, p7⟩ := EA.out.read he
   have HE := hide he
   have BA := hide (btr HB.out (below_alloc wr ((.cells #[.int .i64 e.k, .int .i64 e.g, .int .i64 e.c, .int .i64 e.a, .int .i64 e.v, .int .i64 e.m, .bool e.s, .bool e.o] 50))))
   clear he
   by_cases h2 : e.k = 2
   ·have b2 : (e.k == 2) = true := by simp [h2]
    by_cases hc : e.c = (c : Int)
    ·have bc : (e.c == (c : Int)) = true := by simp [hc]
     have V := hide (MK.out k e HE.out h2 hc)
     clear h2 hc
     go_wp2_with fail
     go_ret
     exact ⟨by rw [← V.out]; rfl, BA.out⟩
    ·have bc : (e.c == (c : Int)) = false := by simp [hc]
     have STEP : Hid (∀ (j : Nat) x, j < k + 1 → l[j]? = some x → ¬ (x.c = (c : Int) ∧ x.k = 2)) := fun j x hj hx => by
      by_cases ej : j = k
      ·rw [ej, HE.out] at hx; cases hx; exact fun q => hc q.1
      ·exact HNO.out j x (by omega) hx
     clear h2 hc
     go_wp2_with fail
     go_roundw
     case measure => simp [intOf]; omega
     case rel => exact ⟨k + 1, by omega, by simp, BA.out, STEP.out⟩
   ·have b2 : (e.k == 2) = false := by simp [h2]
    have STEP : Hid (∀ (j : Nat) x, j < k + 1 → l[j]? = some x → ¬ (x.c = (c : Int) ∧ x.k = 2)) := fun j x hj hx => by
     by_cases ej : j = k
     ·rw [ej, HE.out] at hx; cases hx; exact fun q => h2 q.2
     ·exact HNO.out j x (by omega) hx
    clear h2
    go_wp2_with fail
    go_roundw
    case measure => simp [intOf]; omega
    case rel => exact ⟨k + 1, by omega, by simp, BA.out, STEP.out⟩
  ·have dl : decide ((k : Int) < (L : Int)) = false := by simp; omega
   have Z := hide (NO.out (fun j e he => HNO.out j e (by have := (List.getElem?_eq_some_iff.1 he).1; rw [HL.out] at this; omega) he))
   go_wp2_with fail
   go_ret
   exact ⟨by rw [Z.out]; rfl, HB.out⟩
def ns (l : List Nat) : List Value := l.map fun (x : Nat) => Value.int .i64 (x : Int)
theorem ns_one (l : List Nat) : ∀ u ∈ ns l, u.oneCell' = true := by
 intro u hu
 simp only [ns, List.mem_map] at hu
 obtain ⟨x, -, rfl⟩ := hu
 rfl
def On (w : World) (B : Nat) (v : Value) (l : List Nat) : Prop := w.ownsRow B 3 1 v l.length (ns l)
theorem On.sl {w : World} {B : Nat} {v : Value} {l : List Nat} (h : On w B v l) : ∃ oa c, v = .slice oa l.length c ∧ l.length ≤ c ∧ c ≤ maxLen := by
 rcases h.2 with ⟨rfl, h0⟩ | ⟨g, cap, cur, rfl, -, -, h1, h2, -⟩
 ·exact ⟨none, 0, by rw [h0], by omega, Nat.zero_le _⟩
 ·exact ⟨_, _, rfl, h1, h2⟩
theorem On.cell {w : World} {B : Nat} {oa : Option Addr} {c k : Nat} {l : List Nat} {x : Nat} (h : On w B (.slice oa l.length c) l) (hk : l[k]? = some x) :
 ∃ g, oa = some ⟨g, 0, none⟩ ∧ w.cell? ⟨g, k, none⟩ = some (.int .i64 (x : Int)) := by
 have hl := (List.getElem?_eq_some_iff.1 hk).1
 obtain ⟨g, rfl, -, -, hc⟩ := own_cells h (by omega)
 exact ⟨g, rfl, hc k _ (by unfold ns; rw [List.getElem?_map, hk]; rfl)⟩
theorem On.below {w w' : World} {B : Nat} {v : Value} {l : List Nat} (h : On w B v l) (hb : Below w.heap.size w w') : On w' B v l := own_below h hb
theorem info_int0 : (Tryz.prog.info? 3).map (fun i => (i.zero, i.size, i.bytes)) = some (some (.int .i64 0), 1, 8) := by kernel_rfl
theorem app_on {w : World} {B : Nat} {v : Value} {l : List Nat} (W : World) (ho : On w B v l) (hb : Below w.heap.size w W) (x : Nat) (hl : l.length ≤ 90000) (hB : B ≤ w.heap.size) :
 ∃ ea' c' w', (Builtin.append_ #[67, 67] 67 #[v, .slice (some ⟨W.heap.size, 0, none⟩) 1 1]).run Tryz.prog (W.alloc (.cells #[.int .i64 (x : Int)] 3)) = .ok (.slice ea' (l.length + 1) c') w' ∧ On w' B (.slice ea' (l.length + 1) c') (l ++ [x]) ∧ Below B w w' := by
 obtain ⟨i0, hi, hz, hs, hby⟩ := info_ex info_int0
 have bW := below_alloc W (.cells #[.int .i64 (x : Int)] 3)
 have hB2 : B ≤ (W.alloc (.cells #[.int .i64 (x : Int)] 3)).heap.size := by have := hb.size; have := bW.size; omega
 obtain ⟨v', w', hr, h2, hg, _, _⟩ := run_append_own_at (P := Tryz.prog) (W.alloc (.cells #[.int .i64 (x : Int)] 3)) B 67 67 3 i0 _ 1 8 Tryz.underlying67 hi hz hs hby rfl (by decide) _ _ _ (own_below ho (btr hb bW)) ⟨W.heap.size, 0, none⟩ 1 1 (ns [x]) rfl (fun j u hj => by rw [Addr.add_lit, Nat.zero_add, cell_of (heap_new W _)]; simpa [ns] using hj) (ns_one _) (by unfold maxLen; omega) (by omega) hB2
 have e : ns l ++ ns [x] = ns (l ++ [x]) := by simp [ns]
 rw [e] at h2
 obtain ⟨ea', c', rfl⟩ := own_sl h2
 refine ⟨ea', c', w', hr, ?_, ?_⟩
 ·unfold On
  rw [List.length_append]
  exact h2
 ·exact ((hb.mono hB).trans (bW.mono (by have := hb.size; omega))).trans (grown_below hg (own_base ho) hB2)
theorem done_len (l : List Ev) (c : Int) (b : Bool) (k : Nat) : (done l c b k).length ≤ k := by
 have := dl_len l c b k
 unfold dl at this
 rwa [List.length_map] at this
theorem done_more {l : List Ev} {k : Nat} {e : Ev} (he : l[k]? = some e) {c : Int} {b : Bool} (hc : e.c = c) (hm : moves e = true) : done l c b (k + 1) = done l c b k ++ (if e.s = b then [k] else if 0 ≤ e.m ∧ k + 1 < l.length then [k + 1] else []) := by
 rw [done_succ]
 unfold one
 rw [he]
 simp only
 rw [if_neg (by simp [hc, hm])]
theorem done_skip {l : List Ev} {k : Nat} {e : Ev} (he : l[k]? = some e) {c : Int} {b : Bool} (h : e.c ≠ c ∨ moves e = false) : done l c b (k + 1) = done l c b k := by
 rw [done_succ, one_not he b h, List.append_nil]
set_option maxRecDepth 100000 in
set_option maxHeartbeats 6400000 in
theorem rdone_any (oa : Option Addr) (l : List Ev) (cp c : Nat) (b : Bool) (w : World) (hA : EsAt w oa l) (hl : l.length ≤ 2000) :
 Calls Tryz.prog 98 #[.slice oa l.length cp, .int .i64 (c : Int), .bool b] w fun r w' => ∃ v, r = .returned v ∧ On w' w.heap.size v (done l (c : Int) b l.length) ∧ Below w.heap.size w w' := by
 have HA := hide hA
 obtain ⟨L, hL⟩ : ∃ L, l.length = L := ⟨_, rfl⟩
 have HL := hide hL
 rw [hL] at hl ⊢
 clear hA hL
 go_enter Tryz.func98, Tryz.ntmps98
 go_wp2_with fail
 go_loopw [7, 12] (fun ov iv wr => ∃ k : Nat, k ≤ L ∧ iv = .int .i64 k ∧ On wr w.heap.size ov (done l (c : Int) b k) ∧ Below w.heap.size w wr) (fun _ iv _ => L - (intOf iv).toNat)
 case atStart => exact ⟨0, Nat.zero_le _, rfl, ⟨rfl, .inl ⟨rfl, rfl⟩⟩, Below.refl _ _⟩
 case round =>
  obtain ⟨k, hk, rfl, ow, hb⟩ := hrel
  have HB := hide hb
  have OW := hide ow
  have DL := done_len l (c : Int) b k
  have EA := hide (HA.out.below hb)
  obtain ⟨ea, ca, rfl, -, -⟩ := ow.sl
  obtain ⟨n, hn⟩ : ∃ n, (done l (c : Int) b k).length = n := ⟨_, rfl⟩
  have HN := hide hn
  rw [hn] at DL OW ⊢
  clear hb ow hn
  by_cases hlt : k < L
  ·have hlt' : (k : Int) < (L : Int) := by omega
   have k0 : (0 : Int) ≤ (k : Int) := by omega
   obtain ⟨e, he⟩ : ∃ e, l[k]? = some e := ⟨_, List.getElem?_eq_getElem (by rw [HL.out]; omega)⟩
   obtain ⟨bb, oo, rfl, -⟩ := EA.out k e he
   obtain ⟨p0, p1, p2, p3, p4, p5, p6, p7⟩ := EA.out.read he
   have HE := hide he
   have XB := hide (heap_new wr ((.cells #[.int .i64 e.k, .int .i64 e.g, .int .i64 e.c, .int .i64 e.a, .int .i64 e.v, .int .i64 e.m, .bool e.s, .bool e.o] 50)))
   have BX := hide (below_alloc wr ((.cells #[.int .i64 e.k, .int .i64 e.g, .int .i64 e.c, .int .i64 e.a, .int .i64 e.v, .int .i64 e.m, .bool e.s, .bool e.o] 50)))
   clear he
   go_upto_region 5 with fail
   generalize wr.alloc ((.cells #[.int .i64 e.k, .int .i64 e.g, .int .i64 e.c, .int .i64 e.a, .int .i64 e.v, .int .i64 e.m, .bool e.s, .bool e.o] 50)) = w2 at *
   have BA := hide (btr HB.out BX.out)
   have OW2 : Hid (On w2 w.heap.size (.slice ea n ca) (done l (c : Int) b k)) := OW.out.below BX.out
   clear p0 p1 p2 p3 p4 p5 p6 p7
   have p0 : w2.cell? ⟨wr.heap.size, 0, none⟩ = some (.int .i64 e.k) := cell_of XB.out 0
   have p2 : w2.cell? ⟨wr.heap.size, 2, none⟩ = some (.int .i64 e.c) := cell_of XB.out 2
   have p5 : w2.cell? ⟨wr.heap.size, 5, none⟩ = some (.int .i64 e.m) := cell_of XB.out 5
   have p6 : w2.cell? ⟨wr.heap.size, 6, none⟩ = some (.bool e.s) := cell_of XB.out 6
   have p7 : w2.cell? ⟨wr.heap.size, 7, none⟩ = some (.bool e.o) := cell_of XB.out 7
   by_cases hc : e.c = (c : Int)
   case neg =>
    have bc : (e.c != (c : Int)) = true := by simp [hc]
    have E := hide (done_skip HE.out (b := b) (.inl hc))
    clear hc
    go_wp2_with fail
    go_roundw
    case measure => simp [intOf]; omega
    case rel => exact ⟨k + 1, by omega, by simp, by rw [E.out]; exact OW2.out, BA.out⟩
   have bc : (e.c != (c : Int)) = false := by simp [hc]
   have HC := hide hc
   clear hc
   have MORE := hide (fun (hm : moves e = true) => done_more HE.out (b := b) HC.out hm)
   have SKIP := hide (fun (hm : moves e = false) => done_skip HE.out (c := (c : Int)) (b := b) (.inr hm))
   rw [HL.out] at MORE
   by_cases h3 : e.k = 3
   ·have b3 : (e.k != 3) = false := by simp [h3]
    have E := hide (MORE.out (by unfold moves; simp [h3]))
    clear h3
    by_cases hs : e.s = b
    ·have bs : (e.s == b) = true := by simp [hs]
     have E2 := hide (E.out.trans (by rw [if_pos hs]))
     obtain ⟨ea', c', w6, hap, o6, b6⟩ := app_on w2 (by have q := OW2.out; rw [← HN.out] at q; exact q) (Below.refl _ _) k (by rw [HN.out]; omega) BA.out.size
     rw [HN.out] at hap o6
     have O6 := hide o6
     have B6 := hide (BA.out.trans b6)
     clear hs E o6 b6
     go_wp2_with (at_builtin; refine Lib.wpList_append_run _ (by rfl) _ _ _ _ (by rfl) _ _ (by rfl) (by rfl) _ _ hap ?_)
     go_roundw
     case measure => simp [intOf]; omega
     case rel => exact ⟨k + 1, by omega, by simp, by rw [E2.out]; exact O6.out, B6.out⟩
    ·have bs : (e.s == b) = false := by simp [hs]
     by_cases hm : 0 ≤ e.m
     ·have bm : decide (e.m ≥ 0) = true := by simp; omega
      by_cases hx : k + 1 < L
      ·have bx : decide ((k : Int) + 1 < (L : Int)) = true := by simp; omega
       have hx' : (k : Int) + 1 < (L : Int) := by omega
       have E2 := hide (E.out.trans (by rw [if_neg hs, if_pos ⟨hm, hx⟩]))
       obtain ⟨ea', c', w6, hap, o6, b6⟩ := app_on w2 (by have q := OW2.out; rw [← HN.out] at q; exact q) (Below.refl _ _) (k + 1) (by rw [HN.out]; omega) BA.out.size
       rw [HN.out] at hap o6
       rw [show ((k + 1 : Nat) : Int) = (k : Int) + 1 by omega] at hap
       have O6 := hide o6
       have B6 := hide (BA.out.trans b6)
       clear hs hm hx E o6 b6
       go_wp2_with (at_builtin; refine Lib.wpList_append_run _ (by rfl) _ _ _ _ (by rfl) _ _ (by rfl) (by rfl) _ _ hap ?_)
       go_roundw
       case measure => simp [intOf]; omega
       case rel => exact ⟨k + 1, by omega, by simp, by rw [E2.out]; exact O6.out, B6.out⟩
      ·have bx : decide ((k : Int) + 1 < (L : Int)) = false := by simp; omega
       have E2 := hide (E.out.trans (by rw [if_neg hs, if_neg (fun q => hx q.2), List.append_nil]))
       clear hs hm E
       go_wp2_with fail
       go_roundw
       case measure => simp [intOf]; omega
       case rel => exact ⟨k + 1, by omega, by simp, by rw [E2.out]; exact OW2.out, BA.out⟩
     ·have bm : decide (e.m ≥ 0) = false := by simp; omega
      have E2 := hide (E.out.trans (by rw [if_neg hs, if_neg (fun q => hm q.1), List.append_nil]))
      clear hs hm E
      go_wp2_with fail
      go_roundw
      case measure => simp [intOf]; omega
      case rel => exact ⟨k + 1, by omega, by simp, by rw [E2.out]; exact OW2.out, BA.out⟩
   have b3 : (e.k != 3) = true := by simp [h3]
   by_cases h4 : e.k = 4
   ·have b4 : (e.k != 4) = false := by simp [h4]
    cases ho : e.o
    ·rw [ho] at p7
     have E := hide (SKIP.out (by unfold moves; simp [h3, ho]))
     clear h3 h4 ho
     go_wp2_with fail
     go_roundw
     case measure => simp [intOf]; omega
     case rel => exact ⟨k + 1, by omega, by simp, by rw [E.out]; exact OW2.out, BA.out⟩
    ·rw [ho] at p7
     have E := hide (MORE.out (by unfold moves; simp [h4, ho]))
     clear h3 h4 ho
     by_cases hs : e.s = b
     ·have bs : (e.s == b) = true := by simp [hs]
      have E2 := hide (E.out.trans (by rw [if_pos hs]))
      obtain ⟨ea', c', w6, hap, o6, b6⟩ := app_on w2 (by have q := OW2.out; rw [← HN.out] at q; exact q) (Below.refl _ _) k (by rw [HN.out]; omega) BA.out.size
      rw [HN.out] at hap o6
      have O6 := hide o6
      have B6 := hide (BA.out.trans b6)
      clear hs E o6 b6
      go_wp2_with (at_builtin; refine Lib.wpList_append_run _ (by rfl) _ _ _ _ (by rfl) _ _ (by rfl) (by rfl) _ _ hap ?_)
      go_roundw
      case measure => simp [intOf]; omega
      case rel => exact ⟨k + 1, by omega, by simp, by rw [E2.out]; exact O6.out, B6.out⟩
     ·have bs : (e.s == b) = false := by simp [hs]
      by_cases hm : 0 ≤ e.m
      ·have bm : decide (e.m ≥ 0) = true := by simp; omega
       by_cases hx : k + 1 < L
       ·have bx : decide ((k : Int) + 1 < (L : Int)) = true := by simp; omega
        have hx' : (k : Int) + 1 < (L : Int) := by omega
        have E2 := hide (E.out.trans (by rw [if_neg hs, if_pos ⟨hm, hx⟩]))
        obtain ⟨ea', c', w6, hap, o6, b6⟩ := app_on w2 (by have q := OW2.out; rw [← HN.out] at q; exact q) (Below.refl _ _) (k + 1) (by rw [HN.out]; omega) BA.out.size
        rw [HN.out] at hap o6
        rw [show ((k + 1 : Nat) : Int) = (k : Int) + 1 by omega] at hap
        have O6 := hide o6
        have B6 := hide (BA.out.trans b6)
        clear hs hm hx E o6 b6
        go_wp2_with (at_builtin; refine Lib.wpList_append_run _ (by rfl) _ _ _ _ (by rfl) _ _ (by rfl) (by rfl) _ _ hap ?_)
        go_roundw
        case measure => simp [intOf]; omega
        case rel => exact ⟨k + 1, by omega, by simp, by rw [E2.out]; exact O6.out, B6.out⟩
       ·have bx : decide ((k : Int) + 1 < (L : Int)) = false := by simp; omega
        have E2 := hide (E.out.trans (by rw [if_neg hs, if_neg (fun q => hx q.2), List.append_nil]))
        clear hs hm E
        go_wp2_with fail
        go_roundw
        case measure => simp [intOf]; omega
        case rel => exact ⟨k + 1, by omega, by simp, by rw [E2.out]; exact OW2.out, BA.out⟩
      ·have bm : decide (e.m ≥ 0) = false := by simp; omega
       have E2 := hide (E.out.trans (by rw [if_neg hs, if_neg (fun q => hm q.1), List.append_nil]))
       clear hs hm E
       go_wp2_with fail
       go_roundw
       case measure => simp [intOf]; omega
       case rel => exact ⟨k + 1, by omega, by simp, by rw [E2.out]; exact OW2.out, BA.out⟩
   ·have b4 : (e.k != 4) = true := by simp [h4]
    have E := hide (SKIP.out (by unfold moves; simp [h3, h4]))
    clear h3 h4
    go_wp2_with fail
    go_roundw
    case measure => simp [intOf]; omega
    case rel => exact ⟨k + 1, by omega, by simp, by rw [E.out]; exact OW2.out, BA.out⟩
  ·have dl : decide ((k : Int) < (L : Int)) = false := by simp; omega
   have hkL : k = L := by omega
   have R1 : Hid (On wr w.heap.size (.slice ea n ca) (done l (c : Int) b L)) := by have q := OW.out; rw [hkL] at q; exact q
   go_wp2_with fail
   go_ret
   exact ⟨_, rfl, R1.out, HB.out⟩
end Eg
end Go.Proofs.YtblfimobiibmjaaGreat
namespace Go.Proofs.YtblfimobiibmjaaGreat
open Go.ChangeShapes Go.WideShapes Go.ChangeAt Go.RowKit
namespace Eg
open En Gu Ba
open Classical in
noncomputable def btwB (l : List Ev) (f t : Nat) (g : Int) : Bool := decide (btw l f t g)
theorem btwB_iff {l : List Ev} {f t : Nat} {g : Int} : btwB l f t g = true ↔ btw l f t g := by
 unfold btwB
 simp
def red (x : Ed) : Value := .agg #[.int .i64 (x.f : Int), .int .i64 (x.t : Int), .int .i64 (x.r : Int)]
set_option maxRecDepth 100000 in
set_option maxHeartbeats 3200000 in
theorem between_any (oa : Option Addr) (l : List Ev) (cp : Nat) (x : Ed) (g : Int) (w : World) (hA : EsAt w oa l) (hl : l.length ≤ 2000) (ht : x.t < l.length) (hf : x.f < x.t) :
 Calls Tryz.prog 79 #[.slice oa l.length cp, red x, .int .i64 g] w fun r w' => r = .returned (.bool (btwB l x.f x.t g)) ∧ Below w.heap.size w w' := by
 have X0 := hide (heap_new w (.cells #[.int .i64 (x.f : Int), .int .i64 (x.t : Int), .int .i64 (x.r : Int)] 36))
 have B0 := hide (below_alloc w (.cells #[.int .i64 (x.f : Int), .int .i64 (x.t : Int), .int .i64 (x.r : Int)] 36))
 have HA := hide (hA.below B0.out)
 unfold red
 have YES := hide (fun (q : btw l x.f x.t g) => btwB_iff.2 q)
 have NO := hide (fun (q : ¬ btw l x.f x.t g) => (show btwB l x.f x.t g = false by cases z : btwB l x.f x.t g; rfl; exact absurd (btwB_iff.1 z) q))
 obtain ⟨z, hz⟩ : ∃ z, btwB l x.f x.t g = z := ⟨_, rfl⟩
 rw [hz] at YES NO ⊢
 obtain ⟨L, hL⟩ : ∃ L, l.length = L := ⟨_, rfl⟩
 have HL := hide hL
 rw [hL] at hl ht ⊢
 clear hA hz hL
 go_enter Tryz.func79, Tryz.ntmps79
 go_upto_region 1 with fail
 generalize w.alloc (.cells #[.int .i64 (x.f : Int), .int .i64 (x.t : Int), .int .i64 (x.r : Int)] 36) = w0 at *
 have y0 : w0.cell? ⟨w.heap.size, 0, none⟩ = some (.int .i64 (x.f : Int)) := cell_of X0.out 0
 have hfb : (x.f : Int) + 1 < 2001 := by omega
 go_wp2_with fail
 go_loopw [7] (fun iv wr => ∃ k : Nat, x.f < k ∧ k ≤ x.t ∧ iv = .int .i64 k ∧ Below w0.heap.size w0 wr ∧ ∀ (j : Nat) e, x.f < j → j < k → l[j]? = some e → ¬ (e.g = g ∧ e.k ≠ 13)) (fun iv _ => x.t - (intOf iv).toNat)
 case atStart => exact ⟨x.f + 1, by omega, by omega, by simp, Below.refl _ _, fun j e h1 h2 => by omega⟩
 case round =>
  obtain ⟨k, hk1, hk2, rfl, hb, hno⟩ := hrel
  have HB := hide hb
  have HNO := hide hno
  have EA := hide (HA.out.below hb)
  have X1 := hide (heap_below X0.out hb)
  clear y0 hb hno
  have y1 : wr.cell? ⟨w.heap.size, 1, none⟩ = some (.int .i64 (x.t : Int)) := cell_of X1.out 1
  by_cases hlt : k < x.t
  ·have hlt' : (k : Int) < (x.t : Int) := by omega
   have k0 : (0 : Int) ≤ (k : Int) := by omega
   have k1 : (k : Int) < (L : Int) := by omega
   obtain ⟨e, he⟩ : ∃ e, l[k]? = some e := ⟨_, List.getElem?_eq_getElem (by rw [HL.out]; omega)⟩
   obtain ⟨bb, oo, rfl, -⟩ := EA.out k e he
   obtain ⟨p0, p1, p2, p3, p4, p5, p6, p7⟩ := EA.out.read he
   have HE := hide he
   clear he
   by_cases hg : e.g = g
   ·have b1 : (e.g == g) = true := by simp [hg]
    by_cases h13 : e.k = 13
    ·have b2 : (e.k != 13) = false := by simp [h13]
     have STEP : Hid (∀ (j : Nat) y, x.f < j → j < k + 1 → l[j]? = some y → ¬ (y.g = g ∧ y.k ≠ 13)) := fun j y h1 hj hx => by
      by_cases ej : j = k
      ·rw [ej, HE.out] at hx; cases hx; exact fun q => q.2 h13
      ·exact HNO.out j y h1 (by omega) hx
     clear hg h13
     go_wp2_with fail
     go_roundw
     case measure => simp [intOf]; omega
     case rel => exact ⟨k + 1, by omega, by omega, by simp, HB.out, STEP.out⟩
    ·have b2 : (e.k != 13) = true := by simp [h13]
     have Z := hide (YES.out ⟨k, e, hk1, hlt, HE.out, hg, h13⟩)
     have BF := hide (btr B0.out HB.out)
     clear hg h13
     go_wp2_with fail
     go_ret
     exact ⟨by rw [Z.out]; rfl, BF.out⟩
   ·have b1 : (e.g == g) = false := by simp [hg]
    have STEP : Hid (∀ (j : Nat) y, x.f < j → j < k + 1 → l[j]? = some y → ¬ (y.g = g ∧ y.k ≠ 13)) := fun j y h1 hj hx => by
     by_cases ej : j = k
     ·rw [ej, HE.out] at hx; cases hx; exact fun q => hg q.1
     ·exact HNO.out j y h1 (by omega) hx
    clear hg
    go_wp2_with fail
    go_roundw
    case measure => simp [intOf]; omega
    case rel => exact ⟨k + 1, by omega, by omega, by simp, HB.out, STEP.out⟩
  ·have dl : decide ((k : Int) < (x.t : Int)) = false := by simp; omega
   have Z := hide (NO.out (by
    rintro ⟨j, e, h1, h2, h3, h4, h5⟩
    exact HNO.out j e h1 (by omega) h3 ⟨h4, h5⟩))
   have BF := hide (btr B0.out HB.out)
   go_wp2_with fail
   go_ret
   exact ⟨by rw [Z.out]; rfl, BF.out⟩
end Eg
end Go.Proofs.YtblfimobiibmjaaGreat
