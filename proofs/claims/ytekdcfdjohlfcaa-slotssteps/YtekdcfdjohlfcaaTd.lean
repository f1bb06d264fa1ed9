/- Package slots, over this seat's program: Recv, Peek, Close, Closed. -/
import Derived.Test.YtekdcfdjohlfcaaTc
namespace Go.Proofs.Ytekdcfdjohlfcaa
open Go.ChangeShapes Go.WideShapes Go.ChangeAt Go.RowKit
namespace Sl
open Ck
open Ba (KF Bd Nw)

def recvS (st : Sst) (A : Nat) : Sst := { st with rc := st.rc + 1, gv := st.gv.tail, bk := if 0 < st.sz then st.bk ++ [A] else st.bk }
theorem recv_nil (v : Value) (w : World) : Calls Try.prog 13 #[.pointer none, v] w fun r w' => r = .returned (.tuple #[.pointer none, .int .i64 7]) ∧ w' = w := by
  go_enter Try.func13, Try.ntmps13
  go_wp2_with fail
  go_ret2
  exact ⟨rfl, rfl⟩
theorem takeG_any {Y : Nat → Prop} {S : Nat} {w : World} {st : Sst} {h : Nat → Option (List Int)} {vg vb : Value} {x : Nat} {l : List Nat} (s : SX Y S w st h vg vb) (hb : st.gv = x :: l) :
    Calls Try.prog 37 #[.pointer (some ⟨S, 3, none⟩)] w fun r w' => r = .returned (.tuple #[ptr x, .bool true]) ∧ ∃ vg', SX Y S w' { st with gv := l } h vg' vb ∧ Kp Y w w' := by
  have ob := s.gv
  rw [hb] at ob
  refine (take_any S 3 93 (scs st vg vb) vg x l w s.hp rfl ob s.sg).mono ?_
  rintro r w' ⟨rfl, v', hS, ho, hbl, kf⟩
  have hp' : w'.heap[S]? = some (.cells (scs { st with gv := l } v' vb) 93 (0, 0)) := hS
  obtain ⟨s', k'⟩ := s.put (st' := { st with gv := l }) hp' ho (own_kf s.bk kf (by
    rintro b e (q | q)
    · exact s.sb (q ▸ e)
    · exact s.ap b q e)) (kf.mono fun k q => by rcases q with q | q; exact .inl q; exact .inr (.inl q)) (.inl hbl) (.inl rfl) (by rw [hbl]; exact s.ap) (fun b hbb => s.dom b (by
    rcases hbb with q | q | q
    · exact .inl (by rw [hb]; exact List.mem_cons_of_mem _ q)
    · exact .inr (.inl q)
    · exact .inr (.inr q)))
  exact ⟨rfl, v', s', k'⟩
theorem recv_none {Y : Nat → Prop} {S : Nat} {w : World} {st : Sst} {h : Nat → Option (List Int)} {vg vb : Value} (s : SX Y S w st h vg vb) (c : Value) (hg : st.gv = []) :
    Calls Try.prog 13 #[.pointer (some ⟨S, 0, none⟩), c] w fun r w' => r = .returned (.tuple #[.pointer none, .int .i64 6]) ∧ Below w.heap.size w w' := by
  have SR := hide (source_any s false)
  have TK : Hid (∀ u, Below w.heap.size w u → Calls Try.prog 37 #[.pointer (some ⟨S, 3, none⟩)] u fun r w' => r = .returned (.tuple #[.pointer none, .bool false]) ∧ w' = u) := fun u b => by
    have s1 := s.below b
    have og := s1.gv
    rw [hg] at og
    exact take_empty S 3 vg u s1.cells.2.2.2.1 og
  unfold srcP at SR
  clear s
  go_enter Try.func13, Try.ntmps13
  go_wp2_with fail
  refine SR.out.mono ?_
  rintro r w1 ⟨rfl, b1⟩
  have B1 := hide b1
  have TK1 := hide (TK.out w1 b1)
  clear b1
  go_wp2_with fail
  refine TK1.out.mono ?_
  rintro r w2 ⟨rfl, rfl⟩
  go_wp2_with fail
  go_ret2
  exact ⟨rfl, B1.out⟩
set_option maxHeartbeats 3200000 in
theorem recv_ok {Y : Nat → Prop} {S : Nat} {w : World} {st : Sst} {h : Nat → Option (List Int)} (s : SW Y S w st h) (c : Nat) (l : List Int) (hc : h c = some l) (x : Nat) (gl : List Nat) (hg : st.gv = x :: gl) (hn : st.rc ≤ 1000000) (hbl : st.bk.length ≤ 1000) :
    Calls Try.prog 13 #[.pointer (some ⟨S, 0, none⟩), .pointer (some ⟨c, 0, none⟩)] w fun r w' => r = .returned (.tuple #[ptr x, .int .i64 0]) ∧ ∃ A h', Ext h h' ∧ (0 < st.sz → h' A = some l) ∧ SW Y S w' (recvS st A) h' ∧ Kp Y w w' := by
  obtain ⟨vg, vb, s⟩ := s
  have yl := s.ylt
  have hlt := s.lt
  have SR := hide (source_any s false)
  have TK := hide (fun u (b : Below w.heap.size w u) => takeG_any (s.below b) hg)
  have K1 : Hid (∀ u, Below w.heap.size w u → Kp Y w u) := fun u b => Kp.of b yl
  have EC := hide hc
  have HG := hide hg
  unfold srcP at SR
  unfold ptr at TK ⊢
  clear s hc hg yl
  by_cases hz : 0 < st.sz
  · have d : decide (0 < (st.sz : Int)) = true := decide_eq_true (by omega)
    have hz' : 0 < (st.sz : Int) := by omega
    go_enter Try.func13, Try.ntmps13
    go_wp2_with fail
    refine SR.out.mono ?_
    rintro r w1 ⟨rfl, b1⟩
    have B1 := hide b1
    have TK1 := hide (TK.out w1 b1)
    clear b1
    go_wp2_with fail
    refine TK1.out.mono ?_
    rintro r w2 ⟨rfl, vg2, s2, k2⟩
    have b3 := Ba.bdrew1 w2
    have S3 := hide (s2.below b3)
    have K3 := hide (((K1.out w1 B1.out).trans k2).trans (Kp.of b3 s2.ylt))
    have y0 : w2.cell? ⟨S, 0, none⟩ = some (.int .i64 (st.sz : Int)) := s2.cells.1
    clear s2 k2 b3 TK1
    go_wp2_with fail
    go_region_held3 (fun _ => True) (trivial)
      (first
        | (go_at_call 39; refine (copy_sx S3.out EC.out).mono ?_; rintro r w4 ⟨A, rfl, hA, s4, k4⟩; have S4 := hide s4; have H4 := hide hA; have K4 := hide (K3.out.trans (Kp.mono k4 fun k q => .inl q)); clear s4 k4 hA; unfold ptr)
        | (go_at_call 38; refine (add_any S 4 93 (scs { st with gv := gl } vg2 vb) vb A st.bk w4 S4.out.hp rfl S4.out.bk S4.out.sb (by omega)).mono ?_; rintro r w5 ⟨rfl, v5, hS5, ho5, hat5, kf5⟩))
    obtain ⟨s5, k5⟩ := S4.out.addB (upd_same _ _ _) hS5 ho5 hat5 kf5
    have y1 : w5.cell? ⟨S, 2, none⟩ = some (.int .i64 (st.rc : Int)) := s5.cells.2.2.1
    have f1 : w5.frozen? ⟨S, 2, none⟩ = false := frozen_of s5.hp 2
    have S5 := hide s5
    have K5 := hide (K4.out.trans k5)
    clear s5 k5 hS5 ho5 hat5 kf5 S4 K4 S3 K3
    go_wp2_with fail
    go_ret2
    have e : recvS st A = { st with rc := st.rc + 1, gv := gl, bk := st.bk ++ [A] } := by unfold recvS; rw [HG.out, if_pos hz]; rfl
    obtain ⟨s6, k6⟩ := S5.out.cnt (st' := recvS st A) 2 (.int .i64 ((st.rc : Int) + 1)) (by rw [e]; rfl) (by rw [e]) (by rw [e]) (by rw [e]; exact S5.out.dom)
    first | exact ⟨rfl, A, _, Ext.upd H4.out, fun _ => upd_same _ _ _, ⟨_, _, s6⟩, K5.out.trans k6⟩ | exact ⟨rfl, A, _, Ext.upd H4.out, upd_same _ _ _, ⟨_, _, s6⟩, K5.out.trans k6⟩
  · have d : decide (0 < (st.sz : Int)) = false := decide_eq_false (by omega)
    have hz0 : (st.sz : Int) = 0 := by omega
    go_enter Try.func13, Try.ntmps13
    go_wp2_with fail
    refine SR.out.mono ?_
    rintro r w1 ⟨rfl, b1⟩
    have B1 := hide b1
    have TK1 := hide (TK.out w1 b1)
    clear b1
    go_wp2_with fail
    refine TK1.out.mono ?_
    rintro r w2 ⟨rfl, vg2, s2, k2⟩
    have y0 : w2.cell? ⟨S, 0, none⟩ = some (.int .i64 (st.sz : Int)) := s2.cells.1
    have y1 : w2.cell? ⟨S, 2, none⟩ = some (.int .i64 (st.rc : Int)) := s2.cells.2.2.1
    have f1 : w2.frozen? ⟨S, 2, none⟩ = false := frozen_of s2.hp 2
    have S5 := hide s2
    have K5 := hide ((K1.out w1 B1.out).trans k2)
    rw [hz0] at y0
    clear s2 k2 TK1
    go_wp2_with fail
    go_ret2
    have e : recvS st 0 = { st with rc := st.rc + 1, gv := gl } := by unfold recvS; rw [HG.out, if_neg hz]; rfl
    obtain ⟨s6, k6⟩ := S5.out.cnt (st' := recvS st 0) 2 (.int .i64 ((st.rc : Int) + 1)) (by rw [e]; rfl) (by rw [e]) (by rw [e]) (by rw [e]; exact S5.out.dom)
    exact ⟨rfl, 0, h, Ext.refl _, fun q => absurd q hz, ⟨_, _, s6⟩, K5.out.trans k6⟩
/-- what the next one fetches -/
def pkS (st : Sst) (send : Bool) : Option Nat := if send then fetS st else st.gv.head?
theorem fst_clv (l : List Nat) : fstV l = clv l.head? := by cases l <;> rfl
theorem some_of (l : List Nat) : (!l.isEmpty) = l.head?.isSome := by cases l <;> rfl
theorem firstS_any {Y : Nat → Prop} {S : Nat} {w : World} {st : Sst} {h : Nat → Option (List Int)} {vg vb : Value} (s : SX Y S w st h vg vb) (b : Bool) :
    Calls Try.prog 59 #[srcP S st b] w fun r w' => r = .returned (.tuple #[clv (pkS st b), .bool (pkS st b).isSome]) ∧ w' = w := by
  obtain ⟨y0, y1, y2, y3, y4, y5⟩ := s.cells
  cases b
  · unfold srcP pkS
    simp only [Bool.false_eq_true, if_false]
    rw [← fst_clv, ← some_of]
    exact first_any S 3 vg st.gv w y3 s.gv
  · unfold srcP pkS fetS
    simp only [if_true]
    by_cases hlt : st.sn < st.sz
    · simp only [if_pos hlt]
      exact first_nil w
    · simp only [if_neg hlt]
      rw [← fst_clv, ← some_of]
      exact first_any S 4 vb st.bk w y4 s.bk
theorem peek_nil (b : Bool) (w : World) : Calls Try.prog 46 #[.pointer none, .bool b] w fun r w' => r = .returned (.tuple #[.pointer none, .bool false]) ∧ w' = w := by
  go_enter Try.func46, Try.ntmps46
  go_wp2_with fail
  refine (source_nil _ _).mono ?_
  rintro r w1 ⟨rfl, rfl⟩
  go_wp2_with fail
  refine (first_nil _).mono ?_
  rintro r w2 ⟨rfl, rfl⟩
  go_wp2_with fail
  go_ret2
  exact ⟨rfl, rfl⟩
theorem head_mem {l : List Nat} {x : Nat} (h : l.head? = some x) : x ∈ l := by
  cases l with
  | nil => cases h
  | cons y l => cases h; exact List.mem_cons_self
theorem SX.pk {Y : Nat → Prop} {S : Nat} {w : World} {st : Sst} {h : Nat → Option (List Int)} {vg vb : Value} (s : SX Y S w st h vg vb) {b : Bool} {x : Nat} (hp : pkS st b = some x) : ∃ l, h x = some l := by
  cases b
  · exact s.dom x (.inl (head_mem hp))
  · have hp : (if st.sn < st.sz then none else st.bk.head?) = some x := hp
    split at hp
    · cases hp
    · exact s.dom x (.inr (.inl (head_mem hp)))
set_option maxHeartbeats 1600000 in
theorem peek_any {Y : Nat → Prop} {S : Nat} {w : World} {st : Sst} {h : Nat → Option (List Int)} (s : SW Y S w st h) (b : Bool) :
    Calls Try.prog 46 #[.pointer (some ⟨S, 0, none⟩), .bool b] w fun r w' => ∃ p h', r = .returned (.tuple #[clv p, .bool (pkS st b).isSome]) ∧ Ext h h' ∧ SW Y S w' st h' ∧ Kp Y w w' ∧ (pkS st b = none → p = none) ∧ (∀ x l, pkS st b = some x → h x = some l → ∃ A, p = some A ∧ h A = none ∧ h' A = some l) := by
  obtain ⟨vg, vb, s⟩ := s
  have SR := hide (source_any s b)
  have F1 := hide (fun u (q : Below w.heap.size w u) => firstS_any (s.below q) b)
  have HS := hide s
  have hpp : ∃ pa, srcP S st b = .pointer pa := by
    unfold srcP
    split
    · split <;> exact ⟨_, rfl⟩
    · exact ⟨_, rfl⟩
  obtain ⟨pa, hpa⟩ := hpp
  rw [hpa] at SR F1
  clear s hpa
  cases hp : pkS st b with
  | none =>
    rw [hp] at F1
    unfold clv at F1
    go_enter Try.func46, Try.ntmps46
    go_wp2_with fail
    refine SR.out.mono ?_
    rintro r w1 ⟨rfl, b1⟩
    have B1 := hide b1
    have F2 := hide (F1.out w1 b1)
    clear b1
    go_wp2_with fail
    refine F2.out.mono ?_
    rintro r w2 ⟨rfl, e2⟩
    obtain rfl := e2.symm
    go_wp2_with fail
    go_ret2
    exact ⟨none, h, rfl, Ext.refl _, ⟨_, _, HS.out.below B1.out⟩, Kp.of B1.out HS.out.ylt, fun _ => rfl, fun x l q => by cases q⟩
  | some x =>
    obtain ⟨lx, hlx⟩ := HS.out.pk hp
    have HX := hide hlx
    rw [hp] at F1
    unfold clv ptr at F1
    clear hlx
    go_enter Try.func46, Try.ntmps46
    go_wp2_with fail
    refine SR.out.mono ?_
    rintro r w1 ⟨rfl, b1⟩
    have B1 := hide b1
    have F2 := hide (F1.out w1 b1)
    have CP := hide (copy_sx (HS.out.below b1) HX.out)
    unfold ptr at CP
    clear b1
    go_wp2_with fail
    refine F2.out.mono ?_
    rintro r w2 ⟨rfl, e2⟩
    obtain rfl := e2.symm
    go_wp2_with fail
    refine CP.out.mono ?_
    rintro r w3 ⟨A, rfl, hA, s3, k3⟩
    have S3 := hide s3
    have HA := hide hA
    have K3 := hide ((Kp.of B1.out HS.out.ylt).trans (Kp.mono k3 fun k q => .inl q))
    clear s3 hA k3
    go_wp2_with fail
    go_ret2
    exact ⟨some A, _, rfl, Ext.upd HA.out, ⟨_, _, S3.out⟩, K3.out, fun q => (by cases q), fun y l q e => by
      cases q
      rw [HX.out] at e
      cases e
      exact ⟨A, rfl, HA.out, upd_same _ _ _⟩⟩
theorem close_nil (v : Value) (w : World) : Calls Try.prog 15 #[.pointer none, v] w fun r w' => r = .returned (.int .i64 7) ∧ w' = w := by
  go_enter Try.func15, Try.ntmps15
  go_wp2_with fail
  go_ret
  exact ⟨rfl, rfl⟩
theorem close_err {Y : Nat → Prop} {S : Nat} {w : World} {st : Sst} {h : Nat → Option (List Int)} {vg vb : Value} (s : SX Y S w st h vg vb) (v : Value) (b : Nat) (hc : st.cl = some b) :
    Calls Try.prog 15 #[.pointer (some ⟨S, 0, none⟩), v] w fun r w' => r = .returned (.int .i64 90) ∧ w' = w := by
  obtain ⟨-, -, -, -, -, y5⟩ := s.cells
  rw [hc] at y5
  unfold clv ptr at y5
  clear s
  go_enter Try.func15, Try.ntmps15
  go_wp2_with fail
  go_ret
  exact ⟨rfl, rfl⟩
set_option maxHeartbeats 1600000 in
theorem close_ok {Y : Nat → Prop} {S : Nat} {w : World} {st : Sst} {h : Nat → Option (List Int)} (s : SW Y S w st h) (c : Nat) (l : List Int) (hc : h c = some l) (hcl : st.cl = none) :
    Calls Try.prog 15 #[.pointer (some ⟨S, 0, none⟩), .pointer (some ⟨c, 0, none⟩)] w fun r w' => r = .returned (.int .i64 0) ∧ ∃ A h', Ext h h' ∧ h' A = some l ∧ SW Y S w' { st with cl := some A } h' ∧ Kp Y w w' := by
  obtain ⟨vg, vb, s⟩ := s
  obtain ⟨-, -, -, -, -, y5⟩ := s.cells
  rw [hcl] at y5
  unfold clv at y5
  have CP := hide (copy_sx s hc)
  unfold ptr at CP
  clear s hc
  go_enter Try.func15, Try.ntmps15
  go_wp2_with fail
  refine CP.out.mono ?_
  rintro r w1 ⟨A, rfl, hA, s1, k1⟩
  have y5 : w1.cell? ⟨S, 5, none⟩ = some (.pointer none) := by have := s1.cells.2.2.2.2.2; rw [hcl] at this; exact this
  have f5 : w1.frozen? ⟨S, 5, none⟩ = false := frozen_of s1.hp 5
  have S1 := hide s1
  have HA := hide hA
  have K1 := hide (Kp.mono (Y := Y) k1 fun k q => .inl q)
  clear s1 hA k1
  go_wp2_with fail
  go_ret
  obtain ⟨s6, k6⟩ := S1.out.cnt (st' := { st with cl := some A }) 5 (.pointer (some ⟨A, 0, none⟩)) rfl rfl rfl (fun b hb => by
    rcases hb with q | q | q
    · exact S1.out.dom b (.inl q)
    · exact S1.out.dom b (.inr (.inl q))
    · cases q; exact ⟨_, upd_same _ _ _⟩)
  exact ⟨rfl, A, _, Ext.upd HA.out, upd_same _ _ _, ⟨_, _, s6⟩, K1.out.trans k6⟩
theorem closed_nil (w : World) : Calls Try.prog 47 #[.pointer none] w fun r w' => r = .returned (.tuple #[.pointer none, .bool false]) ∧ w' = w := by
  go_enter Try.func47, Try.ntmps47
  go_wp2_with fail
  go_ret2
  exact ⟨rfl, rfl⟩
set_option maxHeartbeats 1600000 in
theorem closed_any {Y : Nat → Prop} {S : Nat} {w : World} {st : Sst} {h : Nat → Option (List Int)} (s : SW Y S w st h) :
    Calls Try.prog 47 #[.pointer (some ⟨S, 0, none⟩)] w fun r w' => ∃ p h', r = .returned (.tuple #[clv p, .bool st.cl.isSome]) ∧ Ext h h' ∧ SW Y S w' st h' ∧ Kp Y w w' ∧ (st.cl = none → p = none) ∧ (∀ x l, st.cl = some x → h x = some l → ∃ A, p = some A ∧ h' A = some l) := by
  obtain ⟨vg, vb, s⟩ := s
  obtain ⟨-, -, -, -, -, y5⟩ := s.cells
  have HS := hide s
  clear s
  cases hcl : st.cl with
  | none =>
    rw [hcl] at y5
    unfold clv at y5
    go_enter Try.func47, Try.ntmps47
    go_wp2_with fail
    go_ret2
    first | exact ⟨none, h, rfl, Ext.refl _, ⟨_, _, HS.out⟩, Kp.refl _ _, fun _ => rfl, fun x l q => by cases q⟩ | (refine ⟨none, rfl, h, Ext.refl _, ⟨_, _, HS.out⟩, Kp.refl _ _, ?_⟩ <;> simp)
  | some x =>
    obtain ⟨lx, hlx⟩ := HS.out.dom x (.inr (.inr hcl))
    have HX := hide hlx
    rw [hcl] at y5
    unfold clv ptr at y5
    have CP := hide (copy_sx HS.out HX.out)
    unfold ptr at CP
    clear hlx
    go_enter Try.func47, Try.ntmps47
    go_wp2_with fail
    refine CP.out.mono ?_
    rintro r w3 ⟨A, rfl, hA, s3, k3⟩
    have S3 := hide s3
    have HA := hide hA
    have K3 := hide (Kp.mono (Y := Y) k3 fun k q => .inl q)
    clear s3 hA k3
    go_wp2_with fail
    go_ret2
    exact ⟨some A, _, rfl, Ext.upd HA.out, ⟨_, _, S3.out⟩, K3.out, fun q => (by cases q), fun y l q e => by
      cases q
      rw [HX.out] at e
      cases e
      exact ⟨A, rfl, upd_same _ _ _⟩⟩
end Sl
end Go.Proofs.Ytekdcfdjohlfcaa
