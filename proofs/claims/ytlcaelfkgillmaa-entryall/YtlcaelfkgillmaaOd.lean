/- The reference's put and Encode, over this seat's program. -/
import Derived.Test.YtlcaelfkgillmaaNu
import Derived.Test.YtlcaelfkgillmaaNl
import Derived.Deep.RegionHeld3
namespace Go.Proofs.Ytlcaelfkgillmaa
open Go.ChangeShapes Go.WideShapes Go.ChangeAt Go.RowKit
namespace En
open Ba Re

theorem add_bs (K L : List Nat) (w : World) (h : K.length + L.length ≤ 1000000) : (Op.stringOp .add (bs K) (bs L)).run Try.prog w = .ok (.string (bs (K ++ L))) w := by
  rw [add_str _ _ _ (by rw [bs_size, bs_size]; omega), bs_append]
theorem rput1 (n : Nat) (h : n ≤ 1099511627776) (w : World) :
    Calls Try.prog 26 #[.int .i64 (n : Int)] w fun r w' => r = .returned (.string (bs (spl n))) ∧ Below w.heap.size w w' := by
  go_enter Try.func26, Try.ntmps26
  go_wp2_with fail
  refine (rput_ok n h _).mono ?_
  rintro r w1 ⟨rfl, b1⟩
  have B1 := hide b1
  clear b1
  go_wp2_with fail
  go_ret
  exact ⟨rfl, B1.out⟩
theorem rput_at (x : Int) (h : 0 ≤ x ∧ x ≤ 512) (w : World) :
    Calls Try.prog 26 #[.int .i64 x] w fun r w' => r = .returned (.string (bs (spl x.toNat))) ∧ Below w.heap.size w w' := by
  obtain ⟨n, rfl⟩ := Int.eq_ofNat_of_zero_le h.1
  rw [Int.toNat_natCast]
  exact rput1 n (by omega) w
theorem rencode_no (e : Ev) (w : World) (x : Int) (hx : chk e = x) (h0 : (x != 0) = true) :
    Calls Try.prog 10 #[evv e] w fun r w' => r = .returned (.tuple #[.string (bs []), .int .i64 x]) ∧ Below w.heap.size w w' := by
  have CH := hide fun u => rcheck_any e u
  have BA := hide (below_alloc w (.cells (evc e) 23))
  rw [hx] at CH
  clear hx
  obtain ⟨k, g, c, a, v, m, s, o⟩ := e
  unfold evv evc at CH ⊢
  simp only [evc] at BA
  go_enter Try.func10, Try.ntmps10
  go_wp2_with fail
  refine (CH.out _).mono ?_
  rintro r w1 ⟨rfl, b1⟩
  have B1 := hide (btr BA.out b1)
  clear b1
  go_wp2_with fail
  go_ret2
  exact ⟨rfl, B1.out⟩
set_option maxRecDepth 100000 in
set_option maxHeartbeats 6400000 in
theorem rencode_ok (e : Ev) (w : World) (h : chk e = 0) :
    Calls Try.prog 10 #[evv e] w fun r w' => r = .returned (.tuple #[.string (bs (enc e)), .int .i64 0]) ∧ Below w.heap.size w w' := by
  have CH := hide fun u => rcheck_any e u
  have BA := hide (below_alloc w (.cells (evc e) 23))
  have HE := hide (heap_new w (.cells (evc e) 23))
  have NB := nm_b h
  have fb := fl_b (chk_zero h).2.2
  have kb := (chk_zero h).1
  have gb := fb e.g (by simp [fl])
  have cb := fb e.c (by simp [fl])
  have ab := fb e.a (by simp [fl])
  have vb := fb e.v (by simp [fl])
  have mb := fb e.m (by simp [fl])
  rw [h] at CH
  have HENC : Hid (enc e = spl e.k.toNat ++ (spl (e.g + 1).toNat ++ (spl (e.c + 1).toNat ++ (spl (e.a + 1).toNat ++ (spl (e.v + 1).toNat ++ (spl (e.m + 1).toNat ++ spl (fg e).toNat)))))) := by
    show _ = _
    unfold enc pls nm
    simp
  have FG : Hid (fg e = (if e.s = true then 1 else 0) + (if e.o = true then 2 else 0)) := rfl
  generalize enc e = L at HENC ⊢
  generalize fg e = f at HENC FG
  clear h NB fb
  obtain ⟨k, g, c, a, v, m, s, o⟩ := e
  simp only at kb gb cb ab vb mb HENC FG
  unfold evv evc at CH ⊢
  simp only [evc] at BA HE
  have P0 := hide fun u => rput_at k (by omega) u
  have P1 := hide fun u => rput_at (g + 1) (by omega) u
  have P2 := hide fun u => rput_at (c + 1) (by omega) u
  have P3 := hide fun u => rput_at (a + 1) (by omega) u
  have P4 := hide fun u => rput_at (v + 1) (by omega) u
  have P5 := hide fun u => rput_at (m + 1) (by omega) u
  have P6 := hide fun u (h : 0 ≤ f ∧ f ≤ 512) => rput_at f h u
  obtain ⟨g1, hg1⟩ : ∃ y, g + 1 = y := ⟨_, rfl⟩
  have wg : IntKind.i64.wrap g1 = g1 := by rw [IntKind.wrap_i64]; omega
  obtain ⟨c1, hc1⟩ : ∃ y, c + 1 = y := ⟨_, rfl⟩
  have wc : IntKind.i64.wrap c1 = c1 := by rw [IntKind.wrap_i64]; omega
  obtain ⟨a1, ha1⟩ : ∃ y, a + 1 = y := ⟨_, rfl⟩
  have wa : IntKind.i64.wrap a1 = a1 := by rw [IntKind.wrap_i64]; omega
  obtain ⟨v1, hv1⟩ : ∃ y, v + 1 = y := ⟨_, rfl⟩
  have wv : IntKind.i64.wrap v1 = v1 := by rw [IntKind.wrap_i64]; omega
  obtain ⟨m1, hm1⟩ : ∃ y, m + 1 = y := ⟨_, rfl⟩
  have wm : IntKind.i64.wrap m1 = m1 := by rw [IntKind.wrap_i64]; omega
  rw [hg1, hc1, ha1, hv1, hm1] at HENC
  rw [hg1] at P1
  rw [hc1] at P2
  rw [ha1] at P3
  rw [hv1] at P4
  rw [hm1] at P5
  have l0 := spl_len k.toNat
  have l1 := spl_len g1.toNat
  have l2 := spl_len c1.toNat
  have l3 := spl_len a1.toNat
  have l4 := spl_len v1.toNat
  have l5 := spl_len m1.toNat
  have l6 := spl_len f.toNat
  generalize spl k.toNat = L0 at P0 l0 HENC
  generalize spl g1.toNat = L1 at P1 l1 HENC
  generalize spl c1.toNat = L2 at P2 l2 HENC
  generalize spl a1.toNat = L3 at P3 l3 HENC
  generalize spl v1.toNat = L4 at P4 l4 HENC
  generalize spl m1.toNat = L5 at P5 l5 HENC
  generalize spl f.toNat = L6 at P6 l6 HENC
  go_enter Try.func10, Try.ntmps10
  go_wp2_with fail
  refine (CH.out _).mono ?_
  rintro r w1 ⟨rfl, b1⟩
  have B1 := hide (btr BA.out b1)
  have E1 := hide (heap_below HE.out b1)
  clear b1 BA HE CH
  generalize w.heap.size = N at E1 ⊢
  have y0 : w1.cell? ⟨N, 0, none⟩ = some (.int .i64 k) := cell_of E1.out 0
  have y1 : w1.cell? ⟨N, 1, none⟩ = some (.int .i64 g) := cell_of E1.out 1
  have y2 : w1.cell? ⟨N, 2, none⟩ = some (.int .i64 c) := cell_of E1.out 2
  have y3 : w1.cell? ⟨N, 3, none⟩ = some (.int .i64 a) := cell_of E1.out 3
  have y4 : w1.cell? ⟨N, 4, none⟩ = some (.int .i64 v) := cell_of E1.out 4
  have y5 : w1.cell? ⟨N, 5, none⟩ = some (.int .i64 m) := cell_of E1.out 5
  have y6 : w1.cell? ⟨N, 6, none⟩ = some (.bool s) := cell_of E1.out 6
  have y7 : w1.cell? ⟨N, 7, none⟩ = some (.bool o) := cell_of E1.out 7
  cases s
  · cases o
    · have hf : f = 0 := by rw [FG.out]; simp
      subst hf
      have PF := hide fun u => P6.out u (by decide)
      clear P6 FG
      obtain ⟨M1, HM1, lm1⟩ : ∃ M, Hid (M = L0 ++ L1) ∧ M.length ≤ 14 := ⟨_, rfl, by rw [List.length_append]; omega⟩
      have A1 : ∀ u, (Op.stringOp .add (bs L0) (bs L1)).run Try.prog u = .ok (.string (bs M1)) u := fun u => by rw [HM1.out]; exact add_bs L0 L1 u (by omega)
      obtain ⟨M2, HM2, lm2⟩ : ∃ M, Hid (M = M1 ++ L2) ∧ M.length ≤ 21 := ⟨_, rfl, by rw [List.length_append]; omega⟩
      have A2 : ∀ u, (Op.stringOp .add (bs M1) (bs L2)).run Try.prog u = .ok (.string (bs M2)) u := fun u => by rw [HM2.out]; exact add_bs M1 L2 u (by omega)
      obtain ⟨M3, HM3, lm3⟩ : ∃ M, Hid (M = M2 ++ L3) ∧ M.length ≤ 28 := ⟨_, rfl, by rw [List.length_append]; omega⟩
      have A3 : ∀ u, (Op.stringOp .add (bs M2) (bs L3)).run Try.prog u = .ok (.string (bs M3)) u := fun u => by rw [HM3.out]; exact add_bs M2 L3 u (by omega)
      obtain ⟨M4, HM4, lm4⟩ : ∃ M, Hid (M = M3 ++ L4) ∧ M.length ≤ 35 := ⟨_, rfl, by rw [List.length_append]; omega⟩
      have A4 : ∀ u, (Op.stringOp .add (bs M3) (bs L4)).run Try.prog u = .ok (.string (bs M4)) u := fun u => by rw [HM4.out]; exact add_bs M3 L4 u (by omega)
      obtain ⟨M5, HM5, lm5⟩ : ∃ M, Hid (M = M4 ++ L5) ∧ M.length ≤ 42 := ⟨_, rfl, by rw [List.length_append]; omega⟩
      have A5 : ∀ u, (Op.stringOp .add (bs M4) (bs L5)).run Try.prog u = .ok (.string (bs M5)) u := fun u => by rw [HM5.out]; exact add_bs M4 L5 u (by omega)
      obtain ⟨M6, HM6, lm6⟩ : ∃ M, Hid (M = M5 ++ L6) ∧ M.length ≤ 49 := ⟨_, rfl, by rw [List.length_append]; omega⟩
      have A6 : ∀ u, (Op.stringOp .add (bs M5) (bs L6)).run Try.prog u = .ok (.string (bs M6)) u := fun u => by rw [HM6.out]; exact add_bs M5 L6 u (by omega)
      go_wp2_with fail
      go_region_held3 (fun w' => w'.cell? ⟨N, 0, none⟩ = some (.int .i64 k) ∧ w'.cell? ⟨N, 1, none⟩ = some (.int .i64 g) ∧ w'.cell? ⟨N, 2, none⟩ = some (.int .i64 c) ∧ w'.cell? ⟨N, 3, none⟩ = some (.int .i64 a) ∧ w'.cell? ⟨N, 4, none⟩ = some (.int .i64 v) ∧ w'.cell? ⟨N, 5, none⟩ = some (.int .i64 m))
          (first
            | with_reducible assumption
            | (go_split_ands; refine ⟨?_, ?_, ?_, ?_, ?_, ?_⟩ <;> (with_reducible (refine cellB ?_ d6)) <;> with_reducible assumption)
            | (go_split_ands; refine ⟨?_, ?_, ?_, ?_, ?_, ?_⟩ <;> (with_reducible (refine cellB ?_ d5)) <;> with_reducible assumption)
            | (go_split_ands; refine ⟨?_, ?_, ?_, ?_, ?_, ?_⟩ <;> (with_reducible (refine cellB ?_ d4)) <;> with_reducible assumption)
            | (go_split_ands; refine ⟨?_, ?_, ?_, ?_, ?_, ?_⟩ <;> (with_reducible (refine cellB ?_ d3)) <;> with_reducible assumption)
            | (go_split_ands; refine ⟨?_, ?_, ?_, ?_, ?_, ?_⟩ <;> (with_reducible (refine cellB ?_ d2)) <;> with_reducible assumption)
            | (go_split_ands; refine ⟨?_, ?_, ?_, ?_, ?_, ?_⟩ <;> (with_reducible (refine cellB ?_ d1)) <;> with_reducible assumption)
            | (go_split_ands; refine ⟨?_, ?_, ?_, ?_, ?_, ?_⟩ <;> (with_reducible (refine cellB ?_ d0)) <;> with_reducible assumption)
            | go_keep)
          (first
            | (go_at_call_of 26 (Value.int IntKind.i64 k); refine (P0.out _).mono ?_; rintro r z0 ⟨rfl, d0⟩)
            | (go_at_call_of 26 (Value.int IntKind.i64 g1); refine (P1.out _).mono ?_; rintro r z1 ⟨rfl, d1⟩)
            | (go_at_call_of 26 (Value.int IntKind.i64 c1); refine (P2.out _).mono ?_; rintro r z2 ⟨rfl, d2⟩)
            | (go_at_call_of 26 (Value.int IntKind.i64 a1); refine (P3.out _).mono ?_; rintro r z3 ⟨rfl, d3⟩)
            | (go_at_call_of 26 (Value.int IntKind.i64 v1); refine (P4.out _).mono ?_; rintro r z4 ⟨rfl, d4⟩)
            | (go_at_call_of 26 (Value.int IntKind.i64 m1); refine (P5.out _).mono ?_; rintro r z5 ⟨rfl, d5⟩)
            | (go_at_call 26; refine (PF.out _).mono ?_; rintro r z6 ⟨rfl, d6⟩))
      have B9 := hide (btr B1.out (btr (bdrew1 _) (btr d0 (btr d1 (btr d2 (btr d3 (btr d4 (btr d5 d6))))))))
      clear d0 d1 d2 d3 d4 d5 d6
      go_wp2_with fail
      go_ret2
      exact ⟨by rw [HENC.out, HM6.out, HM5.out, HM4.out, HM3.out, HM2.out, HM1.out]; simp only [List.append_assoc]; rfl, B9.out⟩
    · have hf : f = 2 := by rw [FG.out]; simp
      subst hf
      have PF := hide fun u => P6.out u (by decide)
      clear P6 FG
      obtain ⟨M1, HM1, lm1⟩ : ∃ M, Hid (M = L0 ++ L1) ∧ M.length ≤ 14 := ⟨_, rfl, by rw [List.length_append]; omega⟩
      have A1 : ∀ u, (Op.stringOp .add (bs L0) (bs L1)).run Try.prog u = .ok (.string (bs M1)) u := fun u => by rw [HM1.out]; exact add_bs L0 L1 u (by omega)
      obtain ⟨M2, HM2, lm2⟩ : ∃ M, Hid (M = M1 ++ L2) ∧ M.length ≤ 21 := ⟨_, rfl, by rw [List.length_append]; omega⟩
      have A2 : ∀ u, (Op.stringOp .add (bs M1) (bs L2)).run Try.prog u = .ok (.string (bs M2)) u := fun u => by rw [HM2.out]; exact add_bs M1 L2 u (by omega)
      obtain ⟨M3, HM3, lm3⟩ : ∃ M, Hid (M = M2 ++ L3) ∧ M.length ≤ 28 := ⟨_, rfl, by rw [List.length_append]; omega⟩
      have A3 : ∀ u, (Op.stringOp .add (bs M2) (bs L3)).run Try.prog u = .ok (.string (bs M3)) u := fun u => by rw [HM3.out]; exact add_bs M2 L3 u (by omega)
      obtain ⟨M4, HM4, lm4⟩ : ∃ M, Hid (M = M3 ++ L4) ∧ M.length ≤ 35 := ⟨_, rfl, by rw [List.length_append]; omega⟩
      have A4 : ∀ u, (Op.stringOp .add (bs M3) (bs L4)).run Try.prog u = .ok (.string (bs M4)) u := fun u => by rw [HM4.out]; exact add_bs M3 L4 u (by omega)
      obtain ⟨M5, HM5, lm5⟩ : ∃ M, Hid (M = M4 ++ L5) ∧ M.length ≤ 42 := ⟨_, rfl, by rw [List.length_append]; omega⟩
      have A5 : ∀ u, (Op.stringOp .add (bs M4) (bs L5)).run Try.prog u = .ok (.string (bs M5)) u := fun u => by rw [HM5.out]; exact add_bs M4 L5 u (by omega)
      obtain ⟨M6, HM6, lm6⟩ : ∃ M, Hid (M = M5 ++ L6) ∧ M.length ≤ 49 := ⟨_, rfl, by rw [List.length_append]; omega⟩
      have A6 : ∀ u, (Op.stringOp .add (bs M5) (bs L6)).run Try.prog u = .ok (.string (bs M6)) u := fun u => by rw [HM6.out]; exact add_bs M5 L6 u (by omega)
      go_wp2_with fail
      go_region_held3 (fun w' => w'.cell? ⟨N, 0, none⟩ = some (.int .i64 k) ∧ w'.cell? ⟨N, 1, none⟩ = some (.int .i64 g) ∧ w'.cell? ⟨N, 2, none⟩ = some (.int .i64 c) ∧ w'.cell? ⟨N, 3, none⟩ = some (.int .i64 a) ∧ w'.cell? ⟨N, 4, none⟩ = some (.int .i64 v) ∧ w'.cell? ⟨N, 5, none⟩ = some (.int .i64 m))
          (first
            | with_reducible assumption
            | (go_split_ands; refine ⟨?_, ?_, ?_, ?_, ?_, ?_⟩ <;> (with_reducible (refine cellB ?_ d6)) <;> with_reducible assumption)
            | (go_split_ands; refine ⟨?_, ?_, ?_, ?_, ?_, ?_⟩ <;> (with_reducible (refine cellB ?_ d5)) <;> with_reducible assumption)
            | (go_split_ands; refine ⟨?_, ?_, ?_, ?_, ?_, ?_⟩ <;> (with_reducible (refine cellB ?_ d4)) <;> with_reducible assumption)
            | (go_split_ands; refine ⟨?_, ?_, ?_, ?_, ?_, ?_⟩ <;> (with_reducible (refine cellB ?_ d3)) <;> with_reducible assumption)
            | (go_split_ands; refine ⟨?_, ?_, ?_, ?_, ?_, ?_⟩ <;> (with_reducible (refine cellB ?_ d2)) <;> with_reducible assumption)
            | (go_split_ands; refine ⟨?_, ?_, ?_, ?_, ?_, ?_⟩ <;> (with_reducible (refine cellB ?_ d1)) <;> with_reducible assumption)
            | (go_split_ands; refine ⟨?_, ?_, ?_, ?_, ?_, ?_⟩ <;> (with_reducible (refine cellB ?_ d0)) <;> with_reducible assumption)
            | go_keep)
          (first
            | (go_at_call_of 26 (Value.int IntKind.i64 k); refine (P0.out _).mono ?_; rintro r z0 ⟨rfl, d0⟩)
            | (go_at_call_of 26 (Value.int IntKind.i64 g1); refine (P1.out _).mono ?_; rintro r z1 ⟨rfl, d1⟩)
            | (go_at_call_of 26 (Value.int IntKind.i64 c1); refine (P2.out _).mono ?_; rintro r z2 ⟨rfl, d2⟩)
            | (go_at_call_of 26 (Value.int IntKind.i64 a1); refine (P3.out _).mono ?_; rintro r z3 ⟨rfl, d3⟩)
            | (go_at_call_of 26 (Value.int IntKind.i64 v1); refine (P4.out _).mono ?_; rintro r z4 ⟨rfl, d4⟩)
            | (go_at_call_of 26 (Value.int IntKind.i64 m1); refine (P5.out _).mono ?_; rintro r z5 ⟨rfl, d5⟩)
            | (go_at_call 26; refine (PF.out _).mono ?_; rintro r z6 ⟨rfl, d6⟩))
      have B9 := hide (btr B1.out (btr (bdrew1 _) (btr d0 (btr d1 (btr d2 (btr d3 (btr d4 (btr d5 d6))))))))
      clear d0 d1 d2 d3 d4 d5 d6
      go_wp2_with fail
      go_ret2
      exact ⟨by rw [HENC.out, HM6.out, HM5.out, HM4.out, HM3.out, HM2.out, HM1.out]; simp only [List.append_assoc]; rfl, B9.out⟩
  · cases o
    · have hf : f = 1 := by rw [FG.out]; simp
      subst hf
      have PF := hide fun u => P6.out u (by decide)
      clear P6 FG
      obtain ⟨M1, HM1, lm1⟩ : ∃ M, Hid (M = L0 ++ L1) ∧ M.length ≤ 14 := ⟨_, rfl, by rw [List.length_append]; omega⟩
      have A1 : ∀ u, (Op.stringOp .add (bs L0) (bs L1)).run Try.prog u = .ok (.string (bs M1)) u := fun u => by rw [HM1.out]; exact add_bs L0 L1 u (by omega)
      obtain ⟨M2, HM2, lm2⟩ : ∃ M, Hid (M = M1 ++ L2) ∧ M.length ≤ 21 := ⟨_, rfl, by rw [List.length_append]; omega⟩
      have A2 : ∀ u, (Op.stringOp .add (bs M1) (bs L2)).run Try.prog u = .ok (.string (bs M2)) u := fun u => by rw [HM2.out]; exact add_bs M1 L2 u (by omega)
      obtain ⟨M3, HM3, lm3⟩ : ∃ M, Hid (M = M2 ++ L3) ∧ M.length ≤ 28 := ⟨_, rfl, by rw [List.length_append]; omega⟩
      have A3 : ∀ u, (Op.stringOp .add (bs M2) (bs L3)).run Try.prog u = .ok (.string (bs M3)) u := fun u => by rw [HM3.out]; exact add_bs M2 L3 u (by omega)
      obtain ⟨M4, HM4, lm4⟩ : ∃ M, Hid (M = M3 ++ L4) ∧ M.length ≤ 35 := ⟨_, rfl, by rw [List.length_append]; omega⟩
      have A4 : ∀ u, (Op.stringOp .add (bs M3) (bs L4)).run Try.prog u = .ok (.string (bs M4)) u := fun u => by rw [HM4.out]; exact add_bs M3 L4 u (by omega)
      obtain ⟨M5, HM5, lm5⟩ : ∃ M, Hid (M = M4 ++ L5) ∧ M.length ≤ 42 := ⟨_, rfl, by rw [List.length_append]; omega⟩
      have A5 : ∀ u, (Op.stringOp .add (bs M4) (bs L5)).run Try.prog u = .ok (.string (bs M5)) u := fun u => by rw [HM5.out]; exact add_bs M4 L5 u (by omega)
      obtain ⟨M6, HM6, lm6⟩ : ∃ M, Hid (M = M5 ++ L6) ∧ M.length ≤ 49 := ⟨_, rfl, by rw [List.length_append]; omega⟩
      have A6 : ∀ u, (Op.stringOp .add (bs M5) (bs L6)).run Try.prog u = .ok (.string (bs M6)) u := fun u => by rw [HM6.out]; exact add_bs M5 L6 u (by omega)
      go_wp2_with fail
      go_region_held3 (fun w' => w'.cell? ⟨N, 0, none⟩ = some (.int .i64 k) ∧ w'.cell? ⟨N, 1, none⟩ = some (.int .i64 g) ∧ w'.cell? ⟨N, 2, none⟩ = some (.int .i64 c) ∧ w'.cell? ⟨N, 3, none⟩ = some (.int .i64 a) ∧ w'.cell? ⟨N, 4, none⟩ = some (.int .i64 v) ∧ w'.cell? ⟨N, 5, none⟩ = some (.int .i64 m))
          (first
            | with_reducible assumption
            | (go_split_ands; refine ⟨?_, ?_, ?_, ?_, ?_, ?_⟩ <;> (with_reducible (refine cellB ?_ d6)) <;> with_reducible assumption)
            | (go_split_ands; refine ⟨?_, ?_, ?_, ?_, ?_, ?_⟩ <;> (with_reducible (refine cellB ?_ d5)) <;> with_reducible assumption)
            | (go_split_ands; refine ⟨?_, ?_, ?_, ?_, ?_, ?_⟩ <;> (with_reducible (refine cellB ?_ d4)) <;> with_reducible assumption)
            | (go_split_ands; refine ⟨?_, ?_, ?_, ?_, ?_, ?_⟩ <;> (with_reducible (refine cellB ?_ d3)) <;> with_reducible assumption)
            | (go_split_ands; refine ⟨?_, ?_, ?_, ?_, ?_, ?_⟩ <;> (with_reducible (refine cellB ?_ d2)) <;> with_reducible assumption)
            | (go_split_ands; refine ⟨?_, ?_, ?_, ?_, ?_, ?_⟩ <;> (with_reducible (refine cellB ?_ d1)) <;> with_reducible assumption)
            | (go_split_ands; refine ⟨?_, ?_, ?_, ?_, ?_, ?_⟩ <;> (with_reducible (refine cellB ?_ d0)) <;> with_reducible assumption)
            | go_keep)
          (first
            | (go_at_call_of 26 (Value.int IntKind.i64 k); refine (P0.out _).mono ?_; rintro r z0 ⟨rfl, d0⟩)
            | (go_at_call_of 26 (Value.int IntKind.i64 g1); refine (P1.out _).mono ?_; rintro r z1 ⟨rfl, d1⟩)
            | (go_at_call_of 26 (Value.int IntKind.i64 c1); refine (P2.out _).mono ?_; rintro r z2 ⟨rfl, d2⟩)
            | (go_at_call_of 26 (Value.int IntKind.i64 a1); refine (P3.out _).mono ?_; rintro r z3 ⟨rfl, d3⟩)
            | (go_at_call_of 26 (Value.int IntKind.i64 v1); refine (P4.out _).mono ?_; rintro r z4 ⟨rfl, d4⟩)
            | (go_at_call_of 26 (Value.int IntKind.i64 m1); refine (P5.out _).mono ?_; rintro r z5 ⟨rfl, d5⟩)
            | (go_at_call 26; refine (PF.out _).mono ?_; rintro r z6 ⟨rfl, d6⟩))
      have B9 := hide (btr B1.out (btr (bdrew1 _) (btr d0 (btr d1 (btr d2 (btr d3 (btr d4 (btr d5 d6))))))))
      clear d0 d1 d2 d3 d4 d5 d6
      go_wp2_with fail
      go_ret2
      exact ⟨by rw [HENC.out, HM6.out, HM5.out, HM4.out, HM3.out, HM2.out, HM1.out]; simp only [List.append_assoc]; rfl, B9.out⟩
    · have hf : f = 3 := by rw [FG.out]; simp
      subst hf
      have PF := hide fun u => P6.out u (by decide)
      clear P6 FG
      obtain ⟨M1, HM1, lm1⟩ : ∃ M, Hid (M = L0 ++ L1) ∧ M.length ≤ 14 := ⟨_, rfl, by rw [List.length_append]; omega⟩
      have A1 : ∀ u, (Op.stringOp .add (bs L0) (bs L1)).run Try.prog u = .ok (.string (bs M1)) u := fun u => by rw [HM1.out]; exact add_bs L0 L1 u (by omega)
      obtain ⟨M2, HM2, lm2⟩ : ∃ M, Hid (M = M1 ++ L2) ∧ M.length ≤ 21 := ⟨_, rfl, by rw [List.length_append]; omega⟩
      have A2 : ∀ u, (Op.stringOp .add (bs M1) (bs L2)).run Try.prog u = .ok (.string (bs M2)) u := fun u => by rw [HM2.out]; exact add_bs M1 L2 u (by omega)
      obtain ⟨M3, HM3, lm3⟩ : ∃ M, Hid (M = M2 ++ L3) ∧ M.length ≤ 28 := ⟨_, rfl, by rw [List.length_append]; omega⟩
      have A3 : ∀ u, (Op.stringOp .add (bs M2) (bs L3)).run Try.prog u = .ok (.string (bs M3)) u := fun u => by rw [HM3.out]; exact add_bs M2 L3 u (by omega)
      obtain ⟨M4, HM4, lm4⟩ : ∃ M, Hid (M = M3 ++ L4) ∧ M.length ≤ 35 := ⟨_, rfl, by rw [List.length_append]; omega⟩
      have A4 : ∀ u, (Op.stringOp .add (bs M3) (bs L4)).run Try.prog u = .ok (.string (bs M4)) u := fun u => by rw [HM4.out]; exact add_bs M3 L4 u (by omega)
      obtain ⟨M5, HM5, lm5⟩ : ∃ M, Hid (M = M4 ++ L5) ∧ M.length ≤ 42 := ⟨_, rfl, by rw [List.length_append]; omega⟩
      have A5 : ∀ u, (Op.stringOp .add (bs M4) (bs L5)).run Try.prog u = .ok (.string (bs M5)) u := fun u => by rw [HM5.out]; exact add_bs M4 L5 u (by omega)
      obtain ⟨M6, HM6, lm6⟩ : ∃ M, Hid (M = M5 ++ L6) ∧ M.length ≤ 49 := ⟨_, rfl, by rw [List.length_append]; omega⟩
      have A6 : ∀ u, (Op.stringOp .add (bs M5) (bs L6)).run Try.prog u = .ok (.string (bs M6)) u := fun u => by rw [HM6.out]; exact add_bs M5 L6 u (by omega)
      go_wp2_with fail
      go_region_held3 (fun w' => w'.cell? ⟨N, 0, none⟩ = some (.int .i64 k) ∧ w'.cell? ⟨N, 1, none⟩ = some (.int .i64 g) ∧ w'.cell? ⟨N, 2, none⟩ = some (.int .i64 c) ∧ w'.cell? ⟨N, 3, none⟩ = some (.int .i64 a) ∧ w'.cell? ⟨N, 4, none⟩ = some (.int .i64 v) ∧ w'.cell? ⟨N, 5, none⟩ = some (.int .i64 m))
          (first
            | with_reducible assumption
            | (go_split_ands; refine ⟨?_, ?_, ?_, ?_, ?_, ?_⟩ <;> (with_reducible (refine cellB ?_ d6)) <;> with_reducible assumption)
            | (go_split_ands; refine ⟨?_, ?_, ?_, ?_, ?_, ?_⟩ <;> (with_reducible (refine cellB ?_ d5)) <;> with_reducible assumption)
            | (go_split_ands; refine ⟨?_, ?_, ?_, ?_, ?_, ?_⟩ <;> (with_reducible (refine cellB ?_ d4)) <;> with_reducible assumption)
            | (go_split_ands; refine ⟨?_, ?_, ?_, ?_, ?_, ?_⟩ <;> (with_reducible (refine cellB ?_ d3)) <;> with_reducible assumption)
            | (go_split_ands; refine ⟨?_, ?_, ?_, ?_, ?_, ?_⟩ <;> (with_reducible (refine cellB ?_ d2)) <;> with_reducible assumption)
            | (go_split_ands; refine ⟨?_, ?_, ?_, ?_, ?_, ?_⟩ <;> (with_reducible (refine cellB ?_ d1)) <;> with_reducible assumption)
            | (go_split_ands; refine ⟨?_, ?_, ?_, ?_, ?_, ?_⟩ <;> (with_reducible (refine cellB ?_ d0)) <;> with_reducible assumption)
            | go_keep)
          (first
            | (go_at_call_of 26 (Value.int IntKind.i64 k); refine (P0.out _).mono ?_; rintro r z0 ⟨rfl, d0⟩)
            | (go_at_call_of 26 (Value.int IntKind.i64 g1); refine (P1.out _).mono ?_; rintro r z1 ⟨rfl, d1⟩)
            | (go_at_call_of 26 (Value.int IntKind.i64 c1); refine (P2.out _).mono ?_; rintro r z2 ⟨rfl, d2⟩)
            | (go_at_call_of 26 (Value.int IntKind.i64 a1); refine (P3.out _).mono ?_; rintro r z3 ⟨rfl, d3⟩)
            | (go_at_call_of 26 (Value.int IntKind.i64 v1); refine (P4.out _).mono ?_; rintro r z4 ⟨rfl, d4⟩)
            | (go_at_call_of 26 (Value.int IntKind.i64 m1); refine (P5.out _).mono ?_; rintro r z5 ⟨rfl, d5⟩)
            | (go_at_call 26; refine (PF.out _).mono ?_; rintro r z6 ⟨rfl, d6⟩))
      have B9 := hide (btr B1.out (btr (bdrew1 _) (btr d0 (btr d1 (btr d2 (btr d3 (btr d4 (btr d5 d6))))))))
      clear d0 d1 d2 d3 d4 d5 d6
      go_wp2_with fail
      go_ret2
      exact ⟨by rw [HENC.out, HM6.out, HM5.out, HM4.out, HM3.out, HM2.out, HM1.out]; simp only [List.append_assoc]; rfl, B9.out⟩
end En
end Go.Proofs.Ytlcaelfkgillmaa
