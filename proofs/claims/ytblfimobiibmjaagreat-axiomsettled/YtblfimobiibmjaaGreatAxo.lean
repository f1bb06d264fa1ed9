import Derived.Test.YtblfimobiibmjaaGreatZjAh19
import Derived.Test.YtblfimobiibmjaaGreatAxk
import Derived.Test.YtblfimobiibmjaaGreatAxl
namespace Go.Proofs.YtblfimobiibmjaaGreat
open Go.ChangeShapes Go.WideShapes Go.ChangeAt Go.RowKit
namespace Ax
open En Gu Eg Ba
set_option maxRecDepth 100000 in
set_option maxHeartbeats 6400000 in
theorem cheld_any (N z : Nat) (v0 v1 v2 : Value) (d0 d1 d2 : List Nat) (w : World) (h0 : Rn w N v0 d0) (h1 : Rn w N v1 d1) (h2 : Rn w N v2 d2) (l0 : d0.length ≤ 10000) (l1 : d1.length ≤ 10000) (l2 : d2.length ≤ 10000) (hz : z ≤ 10000) :
 Calls Tryz.prog 141 #[.agg #[.int .i64 (z : Int), v0, v1, v2]] w fun r w' => ∃ v, r = .returned v ∧ Rn w' w.heap.size v (d2 ++ d0.drop d1.length ++ if 0 < z then d1.drop (d0.length - z) else []) ∧ Below w.heap.size w w' := by
 obtain ⟨o0, c0, rfl, -, -⟩ := h0.sl
 obtain ⟨o1, c1, rfl, -, -⟩ := h1.sl
 obtain ⟨o2, c2, rfl, -, -⟩ := h2.sl
 have V2 := hide h2.vn
 have F1 := hide (fun u (b : Below w.heap.size w u) => from_any N _ d0 (d1.length : Int) u (h0.below b) (by omega) (by omega))
 have F2 := hide (fun u (b : Below w.heap.size w u) => from_any N _ d1 ((d0.length : Int) - (z : Int)) u (h1.below b) (by omega) (by omega))
 rw [Int.toNat_natCast] at F1
 rw [show ((d0.length : Int) - (z : Int)).toNat = d0.length - z by omega] at F2
 obtain ⟨e0, he0⟩ : ∃ e, d0.drop d1.length = e := ⟨_, rfl⟩
 obtain ⟨e1, he1⟩ : ∃ e, d1.drop (d0.length - z) = e := ⟨_, rfl⟩
 have le0 : e0.length ≤ 10000 := by rw [← he0, List.length_drop]; omega
 have le1 : e1.length ≤ 10000 := by rw [← he1, List.length_drop]; omega
 rw [he0] at F1 ⊢
 rw [he1] at F2 ⊢
 obtain ⟨n0, hn0⟩ : ∃ n, d0.length = n := ⟨_, rfl⟩
 obtain ⟨n1, hn1⟩ : ∃ n, d1.length = n := ⟨_, rfl⟩
 obtain ⟨n2, hn2⟩ : ∃ n, d2.length = n := ⟨_, rfl⟩
 rw [hn0] at F1 F2 l0
 rw [hn1] at F1 F2 l1
 rw [hn2] at V2 l2
 rw [hn0, hn1, hn2]
 have N2 := hide hn2
 have BX := hide (below_alloc w (.cells #[.int .i64 (z : Int), .slice o0 n0 c0, .slice o1 n1 c1, .slice o2 n2 c2] 192))
 have X0 := hide (heap_new w (.cells #[.int .i64 (z : Int), .slice o0 n0 c0, .slice o1 n1 c1, .slice o2 n2 c2] 192))
 clear h0 h1 h2 he0 he1 hn0 hn1 hn2
 go_enter Tryz.func141, Tryz.ntmps141
 go_upto_region 1 with fail
 have LT : Hid (w.heap.size < (w.alloc (.cells #[.int .i64 (z : Int), .slice o0 n0 c0, .slice o1 n1 c1, .slice o2 n2 c2] 192)).heap.size) := by
  show _ < _
  rw [World.size_alloc]
  omega
 generalize w.alloc (.cells #[.int .i64 (z : Int), .slice o0 n0 c0, .slice o1 n1 c1, .slice o2 n2 c2] 192) = w1 at *
 have s0 : w1.cell? ⟨w.heap.size, 0, none⟩ = some (.int .i64 (z : Int)) := cell_of X0.out 0
 have s1 : w1.cell? ⟨w.heap.size, 1, none⟩ = some (.slice o0 n0 c0) := cell_of X0.out 1
 have s2 : w1.cell? ⟨w.heap.size, 2, none⟩ = some (.slice o1 n1 c1) := cell_of X0.out 2
 have s3 : w1.cell? ⟨w.heap.size, 3, none⟩ = some (.slice o2 n2 c2) := cell_of X0.out 3
 go_cut [3] (fun sv wc => Rn wc w1.heap.size sv (d2 ++ e0) ∧ Below w1.heap.size w1 wc)
 case first =>
  go_region_with (first
   | (go_at_call 166; refine (F1.out _ (btr BX.out (bdrew1 _))).mono ?_; rintro r u1 ⟨v1, rfl, q1, c1⟩; have C1 := hide (btr (bdrew1 _) c1); obtain ⟨oe, ce, rfl, -⟩ := (show Vn u1 v1 e0 from q1); have Q1 := hide (show Vn u1 (.slice oe e0.length ce) e0 from q1); have y1 := Mx.cellB s1 C1.out; have y2 := Mx.cellB s2 C1.out; have y3 := Mx.cellB s3 C1.out; clear q1 c1)
   | (go_at_call 165; refine (concat_n u1.heap.size (.slice o2 n2 c2) (.slice oe e0.length ce) d2 e0 _ (cell_of (heap_new u1 _) 0) (cell_of (heap_new u1 _) 1) (V2.out.below (btr BX.out (btr C1.out (below_alloc _ _)))) (Q1.out.below (below_alloc _ _)) (by rw [N2.out]; omega)).mono ?_; rintro r u2 ⟨v3, rfl, q3, c3⟩; have Q3 := hide q3; have C3 := hide (btr C1.out (btr (below_alloc _ _) c3)); clear q3 c3))
  all_goals
   go_wp2_with fail
   go_meet
   exact ⟨Q3.out.mono (by have := C1.out.size; rw [World.size_alloc]; omega), C3.out⟩
 case rest =>
  rename World => wc
  obtain ⟨q3, b3⟩ := hcut
  have B3 := hide (btr BX.out b3)
  have Q3 := hide (q3.mono (B' := w.heap.size) (by have := BX.out.size; omega))
  obtain ⟨o3, c3, rfl, -, -⟩ := q3.sl
  obtain ⟨m, hm⟩ : ∃ m, (d2 ++ e0).length = m := ⟨_, rfl⟩
  have HM := hide hm
  have M3 : m ≤ 20000 := by rw [← hm, List.length_append, N2.out]; omega
  rw [hm] at Q3 ⊢
  clear hm
  have s0' := Mx.cellB s0 b3
  have s1' := Mx.cellB s1 b3
  have s2' := Mx.cellB s2 b3
  clear s0 s1 s2 s3 F1 V2 X0 q3 b3
  by_cases z0 : 0 < z
  ·have zp : (z : Int) > 0 := by omega
   have w0 : IntKind.i64.wrap ((n0 : Int) - (z : Int)) = (n0 : Int) - (z : Int) := by rw [IntKind.wrap_i64]; omega
   have Z0 := hide z0
   clear z0
   go_wp2_with fail
   refine (F2.out _ B3.out).mono ?_
   rintro r u1 ⟨v1, rfl, q1, c1⟩
   obtain ⟨ea, ca, w6, hap, r6, b6⟩ := app_rn2 (Q3.out.below c1) q1 (by rw [HM.out]; omega) (by have := B3.out.size; have := c1.size; omega)
   have R6 := hide r6
   have B6 := hide ((btr B3.out c1).trans b6)
   rw [HM.out] at hap R6
   obtain ⟨oe, ce, rfl, -⟩ := (show Vn u1 v1 e1 from q1)
   clear r6 b6 q1 c1 s0' s1' s2' F2
   go_wp2_with (at_builtin; refine Lib.wpList_append_run _ (by rfl) _ _ _ _ (by rfl) _ _ (by rfl) (by rfl) _ _ hap ?_)
   go_ret
   exact ⟨_, rfl, by first | exact R6.out | (rw [← List.append_assoc]; exact R6.out) | (rw [if_pos Z0.out]; exact R6.out), B6.out⟩
  ·have zp : ¬ ((z : Int) > 0) := by omega
   have Z0 := hide z0
   clear z0 F2
   go_wp2_with fail
   go_ret
   exact ⟨_, rfl, by first | exact Q3.out | (rw [if_neg Z0.out, List.append_nil]; exact Q3.out), B3.out⟩
theorem size_nat {l : List Ev} (h : Tok l) {c : Nat} (hc : c < mkN l) : ∃ z : Nat, (inn l l.length (c : Int)).size = (z : Int) ∧ szF l (c : Int) = z ∧ z ≤ 4 := by
 obtain ⟨i, e, hi, he, k, ec⟩ := make_at h (Nat.le_refl l.length) (by rw [List.take_length]; exact hc)
 have ms := (make_size h he k).1
 have v := chk_v (h.chk he) k
 have v0 := (h.at he).fit.v k
 rw [ec] at ms
 have m := mk_succ he
 rw [if_pos k] at m
 have c' := make_chan h he k
 have s := size_const h (n := i + 1) (c := (c : Int)) (by omega) (l.length - (i + 1)) (by omega)
 rw [show i + 1 + (l.length - (i + 1)) = l.length by omega, ← ec, Gu.inn_succ he] at s
 have hm : moves e = false := by unfold moves; simp [k]
 simp only [ins, hm, k, if_true] at s
 simp at s
 rw [ec] at s
 exact ⟨szF l (c : Int), by omega, rfl, by omega⟩
theorem ch_is (l : List Ev) (c : Nat) : rwK l l.length c 2 ++ (rwK l l.length c 0).drop (rwK l l.length c 1).length ++ (if 0 < szF l (c : Int) then (rwK l l.length c 1).drop ((rwK l l.length c 0).length - szF l (c : Int)) else []) = chP l c := by
 unfold chP rwK
 simp
theorem fl_succ {α : Type} (f : Nat → List α) (k : Nat) : (List.range (k + 1)).flatMap f = (List.range k).flatMap f ++ f k := by
 rw [List.range_succ, List.flatMap_append, List.flatMap_cons, List.flatMap_nil, List.append_nil]
theorem ch_len (l : List Ev) (c : Nat) : (chP l c).length ≤ 3 * l.length := by
 rw [← ch_is, List.length_append, List.length_append, List.length_drop]
 have a := rw_len l l.length c 0
 have b := rw_len l l.length c 1
 have d := rw_len l l.length c 2
 split
 ·rw [List.length_drop]
  omega
 ·simp
  omega
theorem fl_len {α : Type} (f : Nat → List α) (B : Nat) (hf : ∀ c, (f c).length ≤ B) : ∀ n, ((List.range n).flatMap f).length ≤ n * B
 | 0 => by simp
 | n + 1 => by
   rw [fl_succ, List.length_append, Nat.succ_mul]
   have := fl_len f B hf n
   have := hf n
   omega
theorem park_len (l : List Ev) (c : Nat) : (parkP l c).length ≤ 1 := by
 unfold parkP
 split
 ·split <;> simp
 ·simp
theorem held_len (l : List Ev) (hl : l.length ≤ 100) : (heldP l).length ≤ 100000 := by
 unfold heldP
 rw [List.length_append]
 have a := fl_len (chP l) 300 (fun c => by have := ch_len l c; omega) (mkN l)
 have b := fl_len (parkP l) 1 (park_len l) (there l)
 have c := Eg.there_le l
 have d := mkN_le l
 have : mkN l * 300 ≤ 100 * 300 := Nat.mul_le_mul_right _ (by omega)
 omega
section
variable {w : World} {N A M P R W b c : Nat} {oa : Option Addr} {l : List Ev}
set_option maxRecDepth 100000 in
set_option maxHeartbeats 12800000 in
theorem theld_any (N0 : Nat) (T : TW w N0 P R W b oa l) (tk : Tok l) (hl : l.length ≤ 100) {vs : Nat → Nat → Value} (S : SC w N A M (there l) (mkN l) (fun g => (latF l (g : Int) l.length).getD 0) (fun g => exF l (g : Int) l.length) (fun c => (inn l l.length (c : Int)).size) (rwK l l.length) vs)
 (LV : ∀ y, y < there l → ∃ p, latF l (y : Int) l.length = some p ∧ p < l.length) :
 Calls Tryz.prog 97 #[(.agg #[.pointer (some ⟨P, 0, none⟩), .slice oa l.length c, .slice (some ⟨b, 0, none⟩) l.length l.length]), (.agg #[.slice (some ⟨A, 0, none⟩) (there l) (there l), .slice (some ⟨M, 0, none⟩) (mkN l) (mkN l)])] w fun r w' => ∃ v, r = .returned v ∧ Rn w' w.heap.size v (heldP l) ∧ Below w.heap.size w w' := by
 have ES := hide T.es
 have CH := hide (fun (k : Nat) (hk : k < mkN l) (u : World) (bb : Below w.heap.size w u) => (show ∃ z0 a0 a1 a2 d0 d1 d2 e0 e1 e2, u.cell? ⟨M, k * 4, none⟩ = some (.int .i64 z0) ∧ u.cell? ⟨M, k * 4 + 1, none⟩ = some (.slice a0 d0 e0) ∧ u.cell? ⟨M, k * 4 + 2, none⟩ = some (.slice a1 d1 e1) ∧ u.cell? ⟨M, k * 4 + 3, none⟩ = some (.slice a2 d2 e2) ∧ ∀ (u2 : World), Below u.heap.size u u2 → Calls Tryz.prog 141 #[.agg #[.int .i64 z0, .slice a0 d0 e0, .slice a1 d1 e1, .slice a2 d2 e2]] u2 fun r w' => ∃ v, r = .returned v ∧ Rn w' u2.heap.size v (chP l k) ∧ Below u2.heap.size u2 w' from by
  have S2 := S.below bb
  obtain ⟨y0, y1, y2, y3⟩ := S2.readC hk
  obtain ⟨z, hz, hz2, hz3⟩ := size_nat tk hk
  have r0 := S2.rn k hk 0 (by omega)
  have r1 := S2.rn k hk 1 (by omega)
  have r2 := S2.rn k hk 2 (by omega)
  obtain ⟨a0, e0, v0, -, -⟩ := r0.sl
  obtain ⟨a1, e1, v1, -, -⟩ := r1.sl
  obtain ⟨a2, e2, v2, -, -⟩ := r2.sl
  rw [v0] at y1 r0
  rw [v1] at y2 r1
  rw [v2] at y3 r2
  refine ⟨_, a0, a1, a2, _, _, _, e0, e1, e2, y0, y1, y2, y3, fun u2 b2 => ?_⟩
  have l0 := rw_len l l.length k 0
  have l1 := rw_len l l.length k 1
  have l2 := rw_len l l.length k 2
  have CC := cheld_any N z _ _ _ _ _ _ u2 (r0.below b2) (r1.below b2) (r2.below b2) (by omega) (by omega) (by omega) (by omega)
  rw [← hz2, ch_is, hz2, ← hz] at CC
  exact CC))
 have GR := hide (fun (k : Nat) (hk : k < there l) (u : World) (bb : Below w.heap.size w u) => (S.below bb).readG hk)
 have LVH := hide LV
 have CB : Hid (∀ k, ((List.range k).flatMap (chP l)).length ≤ k * 300) := fun k => by
  refine fl_len _ _ (fun c => ?_) k
  have := ch_len l c
  omega
 have GB : Hid (∀ k, ((List.range k).flatMap (parkP l)).length ≤ k * 1) := fun k => fl_len _ _ (park_len l) k
 have TL := Eg.there_le l
 have ML := mkN_le l
 obtain ⟨n, hn⟩ : ∃ n, l.length = n := ⟨_, rfl⟩
 obtain ⟨G, hG⟩ : ∃ G, there l = G := ⟨_, rfl⟩
 obtain ⟨C, hC⟩ : ∃ C, mkN l = C := ⟨_, rfl⟩
 have HP : Hid (heldP l = (List.range C).flatMap (chP l) ++ (List.range G).flatMap (parkP l)) := by
  show _ = _
  rw [← hC, ← hG]
  rfl
 rw [HP.out]
 have HN := hide hn
 rw [hG] at GR LVH TL ⊢
 rw [hC] at CH ML ⊢
 rw [hn] at TL ML hl LVH ⊢
 rw [hn] at GR
 have BT := hide (below_alloc w (.cells #[.pointer (some ⟨P, 0, none⟩), .slice oa n c, .slice (some ⟨b, 0, none⟩) n n] 83))
 have T0 := hide (heap_new w (.cells #[.pointer (some ⟨P, 0, none⟩), .slice oa n c, .slice (some ⟨b, 0, none⟩) n n] 83))
 clear T S LV hn hG hC tk
 go_enter Tryz.func97, Tryz.ntmps97
 go_upto_region 1 with fail
 have SZ1 : Hid ((w.alloc (.cells #[.pointer (some ⟨P, 0, none⟩), .slice oa n c, .slice (some ⟨b, 0, none⟩) n n] 83)).heap.size = w.heap.size + 1) := World.size_alloc ..
 generalize w.alloc (.cells #[.pointer (some ⟨P, 0, none⟩), .slice oa n c, .slice (some ⟨b, 0, none⟩) n n] 83) = w0 at *
 have BS := hide (below_alloc w0 (.cells #[.slice (some ⟨A, 0, none⟩) G G, .slice (some ⟨M, 0, none⟩) C C] 145))
 have S1 := hide (heap_new w0 (.cells #[.slice (some ⟨A, 0, none⟩) G G, .slice (some ⟨M, 0, none⟩) C C] 145))
 rw [SZ1.out] at S1
 have T1 := hide (heap_below T0.out BS.out)
 have B1 := hide (btr BT.out BS.out)
 have LT : Hid (w.heap.size ≤ (w0.alloc (.cells #[.slice (some ⟨A, 0, none⟩) G G, .slice (some ⟨M, 0, none⟩) C C] 145)).heap.size) := by
  show _ ≤ _
  have := B1.out.size
  omega
 generalize w0.alloc (.cells #[.slice (some ⟨A, 0, none⟩) G G, .slice (some ⟨M, 0, none⟩) C C] 145) = w1 at *
 generalize hQ : w.heap.size + 1 = Q at *
 have s0 : w1.cell? ⟨Q, 0, none⟩ = some (.slice (some ⟨A, 0, none⟩) G G) := cell_of S1.out 0
 have s1 : w1.cell? ⟨Q, 1, none⟩ = some (.slice (some ⟨M, 0, none⟩) C C) := cell_of S1.out 1
 have BTR : Hid (∀ u, Below w1.heap.size w1 u → Below w.heap.size w u) := fun u bu => btr B1.out bu
 clear hQ T0 BT BS B1 SZ1
 go_wp2_with fail
 clear s0 s1
 go_loopw [5, 13] (fun sv iv wr => ∃ k : Nat, k ≤ C ∧ iv = .int .i64 (k : Int) ∧ Rn wr w1.heap.size sv ((List.range k).flatMap (chP l)) ∧ Below w1.heap.size w1 wr) (fun _ iv _ => C - (intOf iv).toNat)
 case atStart => exact ⟨0, Nat.zero_le _, rfl, Rn.nil _ _, Below.refl _ _⟩
 case round =>
  obtain ⟨k, hk, rfl, o1, b1⟩ := hrel
  have CBk := CB.out k
  have O1 := hide o1
  have B1 := hide b1
  obtain ⟨a1, c1, rfl, -, -⟩ := o1.sl
  by_cases hlt : k < C
  ·have hlt' : (k : Int) < (C : Int) := by omega
   have k0 : (0 : Int) ≤ (k : Int) := by omega
   obtain ⟨z0, a0, a2, a3, d0, d1, d2, e0, e1, e2, y0, y1, y2, y3, CA⟩ := CH.out k hlt wr (BTR.out wr b1)
   have CA := hide CA
   obtain ⟨m, hm⟩ : ∃ m, ((List.range k).flatMap (chP l)).length = m := ⟨_, rfl⟩
   obtain ⟨m3, hm3⟩ : ∃ m, (chP l k).length = m := ⟨_, rfl⟩
   have HM := hide hm
   have HM3 := hide hm3
   have L1 := CB.out (k + 1)
   rw [fl_succ, List.length_append, hm, hm3] at L1
   rw [hm]
   clear o1 b1 hm hm3 CBk
   go_upto_region 5 with fail
   have BW := hide (below_alloc wr (.cells #[.int .i64 z0, .slice a0 d0 e0, .slice a2 d1 e1, .slice a3 d2 e2] 192))
   have XW := hide (heap_new wr (.cells #[.int .i64 z0, .slice a0 d0 e0, .slice a2 d1 e1, .slice a3 d2 e2] 192))
   have C2 := hide (CA.out _ BW.out)
   have B2 := hide (btr B1.out BW.out)
   have O2 := hide (O1.out.below BW.out)
   generalize wr.alloc (.cells #[.int .i64 z0, .slice a0 d0 e0, .slice a2 d1 e1, .slice a3 d2 e2] 192) = w2 at *
   generalize wr.heap.size = D at *
   have t0 : w2.cell? ⟨D, 0, none⟩ = some (.int .i64 z0) := cell_of XW.out 0
   have t1 : w2.cell? ⟨D, 1, none⟩ = some (.slice a0 d0 e0) := cell_of XW.out 1
   have t2 : w2.cell? ⟨D, 2, none⟩ = some (.slice a2 d1 e1) := cell_of XW.out 2
   have t3 : w2.cell? ⟨D, 3, none⟩ = some (.slice a3 d2 e2) := cell_of XW.out 3
   clear y0 y1 y2 y3 CA O1 B1 BW XW
   go_wp2_with fail
   refine C2.out.mono ?_
   rintro r w3 ⟨v, rfl, o3, b3⟩
   obtain ⟨ea, ce, w4, hap, o4, b4⟩ := app_rn2 (O2.out.below b3) o3.vn (by rw [HM.out, HM3.out]; omega) (Nat.le_trans B2.out.size b3.size)
   obtain ⟨ov, cv, rfl, -, -⟩ := o3.sl
   have O4 := hide o4
   have B4 := hide ((btr B2.out b3).trans b4)
   rw [HM.out, HM3.out] at hap O4
   rw [HM3.out]
   clear t0 t1 t2 t3 o3 b3 o4 b4 C2
   go_wp2_with (at_builtin; refine Lib.wpList_append_run _ (by rfl) _ _ _ _ (by rfl) _ _ (by rfl) (by rfl) _ _ hap ?_)
   go_roundw
   case measure => simp [intOf]; omega
   case rel => exact ⟨k + 1, by omega, by simp, by rw [fl_succ]; exact O4.out, B4.out⟩
  ·obtain rfl : k = C := by omega
   obtain ⟨m, hm⟩ : ∃ m, ((List.range k).flatMap (chP l)).length = m := ⟨_, rfl⟩
   have HM := hide hm
   rw [hm] at CBk
   rw [hm]
   have s0 : wr.cell? ⟨Q, 0, none⟩ = some (.slice (some ⟨A, 0, none⟩) G G) := cell_of (heap_below S1.out b1) 0
   clear o1 b1 hm CH hlt
   go_wp2_with fail
   clear s0
   go_loopw [5, 25] (fun sv iv wp => ∃ j : Nat, j ≤ G ∧ iv = .int .i64 (j : Int) ∧ Rn wp w1.heap.size sv ((List.range k).flatMap (chP l) ++ (List.range j).flatMap (parkP l)) ∧ Below w1.heap.size w1 wp) (fun _ iv _ => G - (intOf iv).toNat)
   case atStart => exact ⟨0, Nat.zero_le _, rfl, by rw [← HM.out]; simpa using O1.out, B1.out⟩
   case round =>
    rename World => wp
    clear O1 B1
    obtain ⟨j, hj, rfl, o2, b2⟩ := hrel
    have GBj := GB.out j
    have O2 := hide o2
    have B2 := hide b2
    obtain ⟨a2, c2, rfl, -, -⟩ := o2.sl
    obtain ⟨m2, hm2⟩ : ∃ m, ((List.range k).flatMap (chP l) ++ (List.range j).flatMap (parkP l)).length = m := ⟨_, rfl⟩
    have HM2 := hide hm2
    have M2 : m2 ≤ 40000 := by
     rw [← hm2, List.length_append, HM.out]
     omega
    rw [hm2]
    clear hm2 GBj
    by_cases hlt : j < G
    ·have hlt' : (j : Int) < (G : Int) := by omega
     have k0 : (0 : Int) ≤ (j : Int) := by omega
     obtain ⟨p, hp, hpn⟩ := LVH.out j hlt
     obtain ⟨r0, r1⟩ := GR.out j hlt wp (BTR.out wp b2)
     rw [hp] at r0
     simp only [Option.getD_some] at r0
     obtain ⟨e, he⟩ : ∃ e, l[p]? = some e := ⟨_, List.getElem?_eq_getElem (by rw [HN.out]; exact hpn)⟩
     have PK : Hid (parkP l j = if e.k = 6 then [p] else []) := by
      show _ = _
      unfold parkP
      rw [HN.out, hp]
      simp only [Option.getD_some, he]
     have EA := hide (ES.out.below (BTR.out wp b2))
     obtain ⟨bb, oo, rfl, -⟩ := EA.out p e he
     obtain ⟨xx, hxx⟩ : ∃ xx, exF l (j : Int) n = xx := ⟨_, rfl⟩
     rw [hxx] at r1
     have hp0 : (0 : Int) ≤ (p : Int) := by omega
     have hp1 : (p : Int) < (n : Int) := by omega
     have EK := hide (fun u (bu : Below wp.heap.size wp u) => ((EA.out.below bu).read he).1)
     clear o2 b2 hp hxx EA he
     go_upto_region 10 with fail
     have BW := hide (below_alloc wp (.cells #[.int .i64 (p : Int), .bool xx] 148))
     have XW := hide (heap_new wp (.cells #[.int .i64 (p : Int), .bool xx] 148))
     have B3 := hide (btr B2.out BW.out)
     have O3 := hide (O2.out.below BW.out)
     have e0 := EK.out _ BW.out
     generalize wp.alloc (.cells #[.int .i64 (p : Int), .bool xx] 148) = w2 at *
     generalize wp.heap.size = D at *
     have t0 : w2.cell? ⟨D, 0, none⟩ = some (.int .i64 (p : Int)) := cell_of XW.out 0
     have t1 : w2.cell? ⟨w.heap.size, 1, none⟩ = some (.slice (some ⟨bb, oo, none⟩) n c) := cell_of (heap_below T1.out B3.out) 1
     clear r0 r1 EK O2 B2 BW XW
     by_cases h6 : e.k = 6
     ·have d6 : (e.k == 6) = true := by simp [h6]
      have H6 := hide h6
      clear h6
      obtain ⟨ea, ce, w4, hap, o4, b4⟩ := app_one O3.out p (by rw [HM2.out]; omega) B3.out.size
      have O4 := hide o4
      have B4 := hide (B3.out.trans b4)
      rw [HM2.out] at hap O4
      clear o4 b4 O3
      go_wp2_with (at_builtin; refine Lib.wpList_append_run _ (by rfl) _ _ _ _ (by rfl) _ _ (by rfl) (by rfl) _ _ hap ?_)
      go_roundw
      case measure => simp [intOf]; omega
      case rel => exact ⟨j + 1, by omega, by simp, by rw [fl_succ, PK.out, if_pos H6.out, ← List.append_assoc]; exact O4.out, B4.out⟩
     ·have d6 : (e.k == 6) = false := by simp [h6]
      have H6 := hide h6
      clear h6
      go_wp2_with fail
      go_roundw
      case measure => simp [intOf]; omega
      case rel => exact ⟨j + 1, by omega, by simp, by rw [fl_succ, PK.out, if_neg H6.out, List.append_nil]; have q := O3.out; rw [HM2.out] at q; exact q, B3.out⟩
    ·obtain rfl : j = G := by omega
     have BL := hide (BTR.out wp b2)
     have O3 := hide (O2.out.mono (B' := w.heap.size) LT.out)
     rw [HM2.out] at O3
     clear o2 b2 hlt
     go_wp2_with fail
     go_ret
     exact ⟨_, rfl, O3.out, BL.out⟩
end
end Ax
end Go.Proofs.YtblfimobiibmjaaGreat
