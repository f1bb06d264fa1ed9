/- Package watch, over this seat's program: Tell, Can, and what a nil watch answers. -/
import Derived.Test.YtakbbhngcdccpaaGreatUc
import Derived.Test.YtakbbhngcdccpaaGreatEp
namespace Go.Proofs.YtakbbhngcdccpaaGreat
open Go.ChangeShapes Go.WideShapes Go.ChangeAt Go.RowKit
namespace Wa
open Ck

/-- more foreign blocks -/
theorem WX.more {Y Y' : Nat → Prop} {B : Nat} {w w1 : World} {st : Wst} {h : Nat → Option (List Int)} {mb : Nat} {D : DataW Unit} (s : WX Y B w st h mb D) (b : Below w.heap.size w w1) (hi : ∀ k, Y' k → Y k ∨ w.heap.size ≤ k) (hd : ∀ k, Y' k → k < w1.heap.size) : WX Y' B w1 st h mb D := by
  have s1 := s.below b
  have hlt := s.lt
  have hml := s.ow.lt
  refine ⟨s1.hp, s1.ow, s.mi, s.sz, s.ne, fun q => ?_, fun q => ?_, cx_ext s.cx (fun k hk _ => b.block k hk) ?_ ?_, s.dom, s.inj, s.tid, s.bd⟩
  · rcases hi _ q with z | z
    · exact s.yb z
    · omega
  · rcases hi _ q with z | z
    · exact s.ym z
    · omega
  · rintro k (q | q)
    · rcases hi k q with z | z
      · exact .inl (.inl z)
      · exact .inr z
    · exact .inl (.inr q)
  · rintro k (q | q)
    · exact hd k q
    · exact Nat.lt_of_lt_of_le (s.cx.base k (.inr q)) b.size
/-- fewer foreign blocks -/
theorem WX.less {Y Y' : Nat → Prop} {B : Nat} {w : World} {st : Wst} {h : Nat → Option (List Int)} {mb : Nat} {D : DataW Unit} (s : WX Y B w st h mb D) (hi : ∀ k, Y' k → Y k) : WX Y' B w st h mb D :=
  ⟨s.hp, s.ow, s.mi, s.sz, s.ne, fun q => s.yb (hi _ q), fun q => s.ym (hi _ q), by
    obtain ⟨f, t, hf⟩ := s.cx
    exact ⟨f, ⟨t.rep, fun i c hc => ⟨(t.ok i c hc).1, (t.ok i c hc).2.1, fun q => (t.ok i c hc).2.2.1 (by rcases q with q | q; exact .inl (hi _ q); exact .inr q), fun x hx q => (t.ok i c hc).2.2.2 x hx (by rcases q with q | q; exact .inl (hi _ q); exact .inr q)⟩, t.apart, fun k q => t.base k (by rcases q with q | q; exact .inl (hi _ q); exact .inr q)⟩, hf⟩, s.dom, s.inj, s.tid, s.bd⟩
def Y1 (Y : Nat → Prop) (R : Nat) : Nat → Prop := fun k => Y k ∨ k = R
theorem kp_heap {X : Nat → Prop} {w w' : World} {b : Nat} {o : Obj} (k : Kp X w w') (h : w.heap[b]? = some o) (hX : X b) : w'.heap[b]? = some o := (k.block b hX).trans h
set_option maxRecDepth 100000 in
set_option maxHeartbeats 3200000 in
theorem tell_ok {Y : Nat → Prop} {B : Nat} {w : World} {st : Wst} {h : Nat → Option (List Int)} (s : WW Y B w st h) (g : Int) (hg : (Lit.int .i64 g).wf = true) (t b : Nat) (l : List Int) (hf : st.f g = some (t, b)) (hb : h b = some l) (hM : nth l t < (st.M : Int)) :
    Calls Tryz.prog 80 #[.pointer (some ⟨B, 0, none⟩), .int .i64 g] w fun r w' => ∃ A l', r = .returned (.tuple #[.pointer (some ⟨A, 0, none⟩), .int .i64 0]) ∧ h A = none ∧ IsSet l l' t (nth l t + 1) ∧ WW Y B w' st (upd (upd h A l) b l') ∧ Kp Y w w' := by
  obtain ⟨mb, D, s⟩ := s
  have FN := hide (find_some s g hg t b hf)
  unfold mV at FN
  have HS := hide s
  have HB := hide hb
  have bd := s.bd
  have ht := s.tid g t b hf
  have OM : Hid (okM (st.M : Int) = true) := by show _ = _; rw [okM_iff]; omega
  have HM := hide hM
  clear s hb hg hM bd
  go_enter Tryz.func80, Tryz.ntmps80
  go_wp2_with fail
  refine FN.out.mono ?_
  rintro r w1 ⟨rfl, b1⟩
  have e1 := heap_new w1 (.cells #[.int .i64 (t : Int), .pointer (some ⟨b, 0, none⟩)] 71)
  have bb := btr b1 (below_alloc w1 (.cells #[.int .i64 (t : Int), .pointer (some ⟨b, 0, none⟩)] 71))
  have S2 : Hid (WX (Y1 Y w1.heap.size) B (w1.alloc (.cells #[.int .i64 (t : Int), .pointer (some ⟨b, 0, none⟩)] 71)) st h mb D) := HS.out.more bb (fun k q => by rcases q with q | q; exact .inl q; exact .inr (by have := b1.size; omega)) (fun k q => by
    rcases q with q | q
    · exact Nat.lt_of_lt_of_le (HS.out.ylt k q) bb.size
    · rw [q, World.size_alloc]; omega)
  have K2 := hide (Kp.of (X := Y) bb HS.out.ylt)
  have CP := hide (copy_wx S2.out HB.out)
  have E1 := hide e1
  clear b1 FN bb e1
  go_wp2_with fail
  refine CP.out.mono ?_
  rintro r w3 ⟨A, rfl, hA, s3, k3⟩
  have E3 := hide (kp_heap k3 E1.out (.inl (.inr rfl)))
  have K3 := hide (K2.out.trans (Kp.mono k3 fun k q => .inl (.inl q)))
  have HA := hide hA
  have hbA : b ≠ A := fun q => by rw [q, hA] at HB; cases HB.out
  have s4 := s3.below (Ba.bdrew1 w3)
  have TK := hide (cx_tick s4.cx (hx_at (b := b) (l := l) (by rw [upd_other _ _ _ _ hbA]; exact HB.out)) t (st.M : Int) ht OM.out HM.out)
  have S4 := hide s4
  have z0 : w3.cell? ⟨w1.heap.size, 0, none⟩ = some (.int .i64 (t : Int)) := cell_of E3.out 0
  have z1 : w3.cell? ⟨w1.heap.size, 1, none⟩ = some (.pointer (some ⟨b, 0, none⟩)) := cell_of E3.out 1
  have zb : w3.cell? ⟨B, 1, none⟩ = some (.int .i64 (st.M : Int)) := cell_of s3.hp 1
  clear s3 k3 hA CP s4 OM
  go_wp2_with fail
  go_region_held3 (fun w' => w'.cell? ⟨w1.heap.size, 0, none⟩ = some (.int .i64 (t : Int)) ∧ w'.cell? ⟨w1.heap.size, 1, none⟩ = some (.pointer (some ⟨b, 0, none⟩)) ∧ w'.cell? ⟨B, 1, none⟩ = some (.int .i64 (st.M : Int)))
    (first | (go_keep; done) | exact ⟨q0, q1, qb⟩)
    (first | (go_at_call 103; refine TK.out.mono ?_; rintro r w5 ⟨rfl, l', c5, v5, n5, cx5, k5⟩; have s5 := S4.out.clk (h' := upd (upd h A l) b l') (by rw [← hx_upd]; exact cx5) k5 (fun b' l2 e => by (by_cases q : b' = b; exact ⟨_, by rw [q]; exact upd_same _ _ _⟩; exact ⟨l2, by rw [upd_other _ _ _ _ q]; exact e⟩)); have E5 := kp_heap k5 E3.out (.inl (.inr rfl)); have q0 : w5.cell? ⟨w1.heap.size, 0, none⟩ = some (.int .i64 (t : Int)) := cell_of E5 0; have q1 : w5.cell? ⟨w1.heap.size, 1, none⟩ = some (.pointer (some ⟨b, 0, none⟩)) := cell_of E5 1; have qb : w5.cell? ⟨B, 1, none⟩ = some (.int .i64 (st.M : Int)) := cell_of s5.hp 1))
  have S5 := hide (s5.less (Y' := Y) fun k q => .inl q)
  have L5 : Hid (IsSet l l' t (nth l t + 1)) := ⟨c5, v5, n5⟩
  have K5 := hide ((kp_b K3.out (Ba.bdrew1 w3) (fun x q => Nat.lt_of_lt_of_le (HS.out.ylt x q) K3.out.size)).trans (Kp.mono k5 fun k q => .inl (.inl q)))
  clear s5 c5 v5 n5 cx5 k5 E5 q0 q1 qb TK S4
  go_wp2_with fail
  go_ret2
  exact ⟨A, l', rfl, HA.out, L5.out, ⟨_, _, S5.out⟩, K5.out⟩
set_option maxRecDepth 100000 in
set_option maxHeartbeats 3200000 in
theorem tell_full {Y : Nat → Prop} {B : Nat} {w : World} {st : Wst} {h : Nat → Option (List Int)} (s : WW Y B w st h) (g : Int) (hg : (Lit.int .i64 g).wf = true) (t b : Nat) (l : List Int) (hf : st.f g = some (t, b)) (hb : h b = some l) (hM : (st.M : Int) ≤ nth l t) :
    Calls Tryz.prog 80 #[.pointer (some ⟨B, 0, none⟩), .int .i64 g] w fun r w' => r = .returned (.tuple #[.pointer none, .int .i64 5]) ∧ ∃ h', Ext h h' ∧ WW Y B w' st h' ∧ Kp Y w w' := by
  obtain ⟨mb, D, s⟩ := s
  have FN := hide (find_some s g hg t b hf)
  unfold mV at FN
  have HS := hide s
  have HB := hide hb
  have bd := s.bd
  have ht := s.tid g t b hf
  have OM : Hid (okM (st.M : Int) = true) := by show _ = _; rw [okM_iff]; omega
  have HM := hide hM
  clear s hb hg hM bd
  go_enter Tryz.func80, Tryz.ntmps80
  go_wp2_with fail
  refine FN.out.mono ?_
  rintro r w1 ⟨rfl, b1⟩
  have e1 := heap_new w1 (.cells #[.int .i64 (t : Int), .pointer (some ⟨b, 0, none⟩)] 71)
  have bb := btr b1 (below_alloc w1 (.cells #[.int .i64 (t : Int), .pointer (some ⟨b, 0, none⟩)] 71))
  have S2 : Hid (WX (Y1 Y w1.heap.size) B (w1.alloc (.cells #[.int .i64 (t : Int), .pointer (some ⟨b, 0, none⟩)] 71)) st h mb D) := HS.out.more bb (fun k q => by rcases q with q | q; exact .inl q; exact .inr (by have := b1.size; omega)) (fun k q => by
    rcases q with q | q
    · exact Nat.lt_of_lt_of_le (HS.out.ylt k q) bb.size
    · rw [q, World.size_alloc]; omega)
  have K2 := hide (Kp.of (X := Y) bb HS.out.ylt)
  have CP := hide (copy_wx S2.out HB.out)
  have E1 := hide e1
  clear b1 FN bb e1
  go_wp2_with fail
  refine CP.out.mono ?_
  rintro r w3 ⟨A, rfl, hA, s3, k3⟩
  have E3 := hide (kp_heap k3 E1.out (.inl (.inr rfl)))
  have K3 := hide (K2.out.trans (Kp.mono k3 fun k q => .inl (.inl q)))
  have HA := hide hA
  have hbA : b ≠ A := fun q => by rw [q, hA] at HB; cases HB.out
  have s4 := s3.below (Ba.bdrew1 w3)
  have TK := hide (tick_full b l t (st.M : Int) w3.drew (s4.cx.get (hx_at (b := b) (l := l) (by rw [upd_other _ _ _ _ hbA]; exact HB.out))).1 ht OM.out HM.out)
  have S4 := hide (s4.less (Y' := Y) fun k q => .inl q)
  have z0 : w3.cell? ⟨w1.heap.size, 0, none⟩ = some (.int .i64 (t : Int)) := cell_of E3.out 0
  have z1 : w3.cell? ⟨w1.heap.size, 1, none⟩ = some (.pointer (some ⟨b, 0, none⟩)) := cell_of E3.out 1
  have zb : w3.cell? ⟨B, 1, none⟩ = some (.int .i64 (st.M : Int)) := cell_of s3.hp 1
  clear s3 k3 hA CP s4 OM
  go_wp2_with fail
  go_region_held3 (fun w' => w'.cell? ⟨w1.heap.size, 0, none⟩ = some (.int .i64 (t : Int)) ∧ w'.cell? ⟨w1.heap.size, 1, none⟩ = some (.pointer (some ⟨b, 0, none⟩)) ∧ w'.cell? ⟨B, 1, none⟩ = some (.int .i64 (st.M : Int)))
    (first | (go_keep; done) | exact ⟨z0, z1, zb⟩)
    (first | (go_at_call 103; refine TK.out.mono ?_; rintro r w5 ⟨rfl, rfl⟩))
  have K5 := hide (kp_b K3.out (Ba.bdrew1 w3) (fun x q => Nat.lt_of_lt_of_le (HS.out.ylt x q) K3.out.size))
  clear TK
  go_wp2_with fail
  go_ret2
  exact ⟨rfl, _, Ext.upd HA.out, ⟨_, _, S4.out⟩, K5.out⟩
set_option maxRecDepth 100000 in
set_option maxHeartbeats 3200000 in
theorem can_any {Y : Nat → Prop} {B : Nat} {w : World} {st : Wst} {h : Nat → Option (List Int)} (s : WW Y B w st h) (g : Int) (hg : (Lit.int .i64 g).wf = true) (t b : Nat) (l : List Int) (hf : st.f g = some (t, b)) (hb : h b = some l) :
    Calls Tryz.prog 16 #[.pointer (some ⟨B, 0, none⟩), .int .i64 g] w fun r w' => r = .returned (.bool (decide (nth l t < (st.M : Int)))) ∧ Below w.heap.size w w' := by
  obtain ⟨mb, D, s⟩ := s
  have FN := hide (find_some s g hg t b hf)
  unfold mV at FN
  have HS := hide s
  have CK0 := hide (s.cx.get (hx_at hb)).1
  clear s hb hg
  go_enter Tryz.func16, Tryz.ntmps16
  go_wp2_with fail
  refine FN.out.mono ?_
  rintro r w1 ⟨rfl, b1⟩
  have b2 := btr b1 (below_alloc w1 (.cells #[.int .i64 (t : Int), .pointer (some ⟨b, 0, none⟩)] 71))
  have e1 := heap_new w1 (.cells #[.int .i64 (t : Int), .pointer (some ⟨b, 0, none⟩)] 71)
  have B2 := hide b2
  have z0 : (w1.alloc (.cells #[.int .i64 (t : Int), .pointer (some ⟨b, 0, none⟩)] 71)).cell? ⟨w1.heap.size, 0, none⟩ = some (.int .i64 (t : Int)) := cell_of e1 0
  have z1 : (w1.alloc (.cells #[.int .i64 (t : Int), .pointer (some ⟨b, 0, none⟩)] 71)).cell? ⟨w1.heap.size, 1, none⟩ = some (.pointer (some ⟨b, 0, none⟩)) := cell_of e1 1
  have zb : (w1.alloc (.cells #[.int .i64 (t : Int), .pointer (some ⟨b, 0, none⟩)] 71)).cell? ⟨B, 1, none⟩ = some (.int .i64 (st.M : Int)) := cell_of (HS.out.below b2).hp 1
  have GE := hide (fun u (q : Below w.heap.size w u) => get_any b l (t : Int) u (CK0.out.below q))
  rw [gt_nat] at GE
  generalize hv : nth l t = v at *
  generalize hmm : (st.M : Int) = mm at *
  go_wp2_with fail
  generalize w1.alloc (.cells #[.int .i64 (t : Int), .pointer (some ⟨b, 0, none⟩)] 71) = w2 at *
  clear b1 b2 e1
  go_region_held3 (fun w' => w'.cell? ⟨w1.heap.size, 0, none⟩ = some (.int .i64 (t : Int)) ∧ w'.cell? ⟨w1.heap.size, 1, none⟩ = some (.pointer (some ⟨b, 0, none⟩)) ∧ w'.cell? ⟨B, 1, none⟩ = some (.int .i64 mm))
    (first | (go_keep; done) | exact ⟨z0, z1, zb⟩)
    (first | (go_at_call 37; refine (GE.out _ (btr B2.out (Ba.bdrew1 _))).mono ?_; rintro r w5 ⟨rfl, rfl⟩))
  all_goals
    go_wp2_with fail
    go_ret
    exact ⟨by (rw [hv, hmm]) <;> rfl, btr B2.out (Ba.bdrew1 _)⟩
theorem cepoch_nil (w : World) : Calls Tryz.prog 102 #[.pointer none, .int .i64 0] w fun r w' => r = .returned (.int .u64 0) ∧ w' = w := by
  have GN := hide (get_nil 0 w)
  have PN := hide (fun u => Ep.pack_no 0 0 (by omega) u)
  go_enter Tryz.func102, Tryz.ntmps102
  go_wp2_with fail
  refine GN.out.mono ?_
  rintro r w1 ⟨rfl, e1⟩
  obtain rfl := e1.symm
  go_wp2_with fail
  refine (PN.out _).mono ?_
  rintro r w1 ⟨rfl, e1⟩
  obtain rfl := e1.symm
  go_wp2_with fail
  go_ret
  exact ⟨rfl, rfl⟩
theorem epoch_nil (g : Int) (w : World) : Calls Tryz.prog 77 #[.pointer none, .int .i64 g] w fun r w' => r = .returned (.int .u64 0) ∧ Below w.heap.size w w' := by
  have FN := hide (find_nil g w)
  unfold mZ at FN
  go_enter Tryz.func77, Tryz.ntmps77
  go_wp2_with fail
  refine FN.out.mono ?_
  rintro r w1 ⟨rfl, b1⟩
  have B1 := hide b1
  clear b1
  go_wp2_with fail
  refine (cepoch_nil _).mono ?_
  rintro r w2 ⟨rfl, rfl⟩
  go_wp2_with fail
  go_ret
  exact ⟨rfl, btr B1.out (below_alloc _ _)⟩
theorem spawn_nil (g k : Int) (w : World) : Calls Tryz.prog 57 #[.pointer none, .int .i64 g, .int .i64 k] w fun r w' => r = .returned (.tuple #[.int .i64 0, .int .i64 6]) ∧ Below w.heap.size w w' := by
  have FN := hide (find_nil g w)
  unfold mZ at FN
  go_enter Tryz.func57, Tryz.ntmps57
  go_wp2_with fail
  refine FN.out.mono ?_
  rintro r w1 ⟨rfl, b1⟩
  have B1 := hide b1
  clear b1
  go_wp2_with fail
  go_ret2
  exact ⟨rfl, btr B1.out (below_alloc _ _)⟩
theorem retire_nil (g : Int) (w : World) : Calls Tryz.prog 21 #[.pointer none, .int .i64 g] w fun r w' => r = .returned (.int .i64 6) ∧ Below w.heap.size w w' := by
  have FN := hide (find_nil g w)
  unfold mZ at FN
  go_enter Tryz.func21, Tryz.ntmps21
  go_wp2_with fail
  refine FN.out.mono ?_
  rintro r w1 ⟨rfl, b1⟩
  have B1 := hide b1
  clear b1
  go_wp2_with fail
  go_ret
  exact ⟨rfl, btr B1.out (below_alloc _ _)⟩
end Wa
end Go.Proofs.YtakbbhngcdccpaaGreat
