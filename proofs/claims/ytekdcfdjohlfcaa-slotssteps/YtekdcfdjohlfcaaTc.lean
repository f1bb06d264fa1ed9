/- Package slots, over this seat's program: Send and Recv. -/
import Derived.Test.YtekdcfdjohlfcaaTb
import Derived.Deep.RegionHeld3
namespace Go.Proofs.Ytekdcfdjohlfcaa
open Go.ChangeShapes Go.WideShapes Go.ChangeAt Go.RowKit
namespace Sl
open Ck
open Ba (KF Bd Nw)

/-- what the next send fetches -/
def fetS (st : Sst) : Option Nat := if st.sn < st.sz then none else st.bk.head?
/-- Send's error -/
def sendE (st : Sst) : Int := if st.cl.isSome then 90 else if st.rc + max 1 st.sz ≤ st.sn then 5 else 0
def tookS (st : Sst) : Sst := { st with bk := if st.sn < st.sz then st.bk else st.bk.tail }
def sendS (st : Sst) (A : Nat) : Sst := { tookS st with sn := st.sn + 1, gv := st.gv ++ [A] }
theorem send_nil (v : Value) (w : World) : Calls Try.prog 10 #[.pointer none, v] w fun r w' => r = .returned (.tuple #[.pointer none, .int .i64 7]) ∧ w' = w := by
  go_enter Try.func10, Try.ntmps10
  go_wp2_with fail
  go_ret2
  exact ⟨rfl, rfl⟩
/-- the one that a send fetches is taken -/
theorem took_any {Y : Nat → Prop} {S : Nat} {w : World} {st : Sst} {h : Nat → Option (List Int)} {vg vb : Value} (s : SX Y S w st h vg vb) :
    Calls Try.prog 37 #[srcP S st true] w fun r w' => (∃ b, r = .returned (.tuple #[clv (fetS st), .bool b])) ∧ ∃ vb', SX Y S w' (tookS st) h vg vb' ∧ Kp Y w w' := by
  unfold srcP fetS tookS
  rw [if_pos rfl]
  by_cases hlt : st.sn < st.sz
  · simp only [if_pos hlt]
    refine (take_nil w).mono ?_
    rintro r w' ⟨rfl, rfl⟩
    exact ⟨⟨_, rfl⟩, vb, s, Kp.refl _ _⟩
  · simp only [if_neg hlt]
    obtain ⟨y0, y1, y2, y3, y4, y5⟩ := s.cells
    cases hb : st.bk with
    | nil =>
      have ob := s.bk
      rw [hb] at ob
      refine (take_empty S 4 vb w y4 ob).mono ?_
      rintro r w' ⟨rfl, rfl⟩
      refine ⟨⟨_, rfl⟩, vb, ?_, Kp.refl _ _⟩
      have : ({ st with bk := ([] : List Nat) } : Sst) = st := by cases st; cases hb; rfl
      show SX Y S _ { st with bk := [] } h vg vb
      rw [this]
      exact s
    | cons x l =>
      have ob := s.bk
      rw [hb] at ob
      refine (take_any S 4 93 (scs st vg vb) vb x l w s.hp rfl ob s.sb).mono ?_
      rintro r w' ⟨rfl, v', hS, ho, hbl, kf⟩
      have hp' : w'.heap[S]? = some (.cells (scs { st with bk := l } vg v') 93 (0, 0)) := hS
      have og : w'.ownsRow 0 34 1 vg st.gv.length (pcs st.gv) := by
        refine ⟨s.gv.1, ?_⟩
        rcases s.gv.2 with q | ⟨g, cap, cr, e, h0, hg, q⟩
        · exact .inl q
        · refine .inr ⟨g, cap, cr, e, h0, (kf.block g (Array.getElem?_eq_some_iff.1 hg).1 ?_).trans hg, q⟩
          rintro (z | z)
          · exact s.sg (by rw [e, ← z]; rfl)
          · exact s.ap g (by rw [e]; rfl) z
      obtain ⟨s', k'⟩ := s.put (st' := { st with bk := l }) hp' og ho (kf.mono fun k q => by rcases q with q | q; exact .inl q; exact .inr (.inr q)) (.inl rfl) (.inl hbl) (by rw [hbl]; exact s.ap) (fun b hbb => s.dom b (by
        rcases hbb with q | q | q
        · exact .inl q
        · exact .inr (.inl (by rw [hb]; exact List.mem_cons_of_mem _ q))
        · exact .inr (.inr q)))
      exact ⟨⟨_, rfl⟩, v', s', k'⟩
set_option maxHeartbeats 1600000 in
theorem send_err {Y : Nat → Prop} {S : Nat} {w : World} {st : Sst} {h : Nat → Option (List Int)} {vg vb : Value} (s : SX Y S w st h vg vb) (c : Value) (hE : sendE st ≠ 0) (hn : st.sn ≤ 1000000) (hr : st.rc ≤ st.sn) :
    Calls Try.prog 10 #[.pointer (some ⟨S, 0, none⟩), c] w fun r w' => r = .returned (.tuple #[.pointer none, .int .i64 (sendE st)]) ∧ Below w.heap.size w w' := by
  obtain ⟨y0, y1, y2, -, -, y5⟩ := s.cells
  clear s
  unfold sendE at hE ⊢
  cases hc : st.cl with
  | some b =>
    rw [hc] at y5
    unfold clv ptr at y5
    simp only [Option.isSome_some, if_true]
    clear hE y0 y1 y2
    go_enter Try.func10, Try.ntmps10
    go_wp2_with fail
    go_ret2
    exact ⟨rfl, Below.refl _ _⟩
  | none =>
    rw [hc] at y5 hE
    unfold clv at y5
    simp only [Option.isSome_none, Bool.false_eq_true, if_false] at hE ⊢
    by_cases hf : st.rc + max 1 st.sz ≤ st.sn
    · rw [if_pos hf]
      clear hE
      by_cases hz : (1 : Int) < (st.sz : Int)
      · have d : decide ((st.sz : Int) ≤ (st.sn : Int) - (st.rc : Int)) = true := decide_eq_true (by omega)
        go_enter Try.func10, Try.ntmps10
        go_wp2_with fail
        go_region
        all_goals
          go_wp2_with fail
          go_ret2
          exact ⟨rfl, Ba.bdrew1 _⟩
      · have d : decide ((1 : Int) ≤ (st.sn : Int) - (st.rc : Int)) = true := decide_eq_true (by omega)
        go_enter Try.func10, Try.ntmps10
        go_wp2_with fail
        go_region
        all_goals
          go_wp2_with fail
          go_ret2
          exact ⟨rfl, Ba.bdrew1 _⟩
    · exact absurd (by rw [if_neg hf]) hE
theorem own_kf {F : Nat → Prop} {w w' : World} {e : TypeId} {v : Value} {n : Nat} {xs : List Value} (h : w.ownsRow 0 e 1 v n xs) (k : KF F w w') (hX : ∀ b, v.ownBlock = some b → ¬ F b) : w'.ownsRow 0 e 1 v n xs := by
  refine ⟨h.1, ?_⟩
  rcases h.2 with q | ⟨g, cap, cr, rfl, h0, hg, q⟩
  · exact .inl q
  · exact .inr ⟨g, cap, cr, rfl, h0, (k.block g (Array.getElem?_eq_some_iff.1 hg).1 (hX g rfl)).trans hg, q⟩
/-- one more is kept, of a send -/
theorem SX.addG {Y : Nat → Prop} {S : Nat} {w w' : World} {st : Sst} {h : Nat → Option (List Int)} {vg vb v' : Value} {A : Nat} {l : List Int} (s : SX Y S w st h vg vb) (hA : h A = some l)
    (hS : w'.heap[S]? = some (.cells ((scs st vg vb).setIfInBounds 3 v') 93 (0, 0))) (ho : w'.ownsRow 0 34 1 v' (st.gv ++ [A]).length (pcs (st.gv ++ [A]))) (hat : v'.ownBlock = vg.ownBlock ∨ ∃ N, v'.ownBlock = some N ∧ w.heap.size ≤ N)
    (kf : KF (fun k => k = S ∨ vg.ownBlock = some k) w w') : SX Y S w' { st with gv := st.gv ++ [A] } h v' vb ∧ Kp Y w w' := by
  refine s.put (st' := { st with gv := st.gv ++ [A] }) hS ho (own_kf s.bk kf ?_) (kf.mono fun k q => by rcases q with q | q; exact .inl q; exact .inr (.inl q)) hat (.inl rfl) ?_ ?_
  · rintro b e (q | q)
    · exact s.sb (q ▸ e)
    · exact s.ap b q e
  · intro k e
    rcases hat with q | ⟨N, q, hN⟩
    · exact s.ap k (q ▸ e)
    · rw [q] at e
      cases e
      intro z
      have := (s.bk.lt _ z).2
      omega
  · intro b hb
    rcases hb with q | q | q
    · rcases List.mem_append.1 q with q | q
      · exact s.dom b (.inl q)
      · rw [List.mem_singleton] at q; rw [q]; exact ⟨l, hA⟩
    · exact s.dom b (.inr (.inl q))
    · exact s.dom b (.inr (.inr q))
/-- one more is kept, of a receive -/
theorem SX.addB {Y : Nat → Prop} {S : Nat} {w w' : World} {st : Sst} {h : Nat → Option (List Int)} {vg vb v' : Value} {A : Nat} {l : List Int} (s : SX Y S w st h vg vb) (hA : h A = some l)
    (hS : w'.heap[S]? = some (.cells ((scs st vg vb).setIfInBounds 4 v') 93 (0, 0))) (ho : w'.ownsRow 0 34 1 v' (st.bk ++ [A]).length (pcs (st.bk ++ [A]))) (hat : v'.ownBlock = vb.ownBlock ∨ ∃ N, v'.ownBlock = some N ∧ w.heap.size ≤ N)
    (kf : KF (fun k => k = S ∨ vb.ownBlock = some k) w w') : SX Y S w' { st with bk := st.bk ++ [A] } h vg v' ∧ Kp Y w w' := by
  refine s.put (st' := { st with bk := st.bk ++ [A] }) hS (own_kf s.gv kf ?_) ho (kf.mono fun k q => by rcases q with q | q; exact .inl q; exact .inr (.inr q)) (.inl rfl) hat ?_ ?_
  · rintro b e (q | q)
    · exact s.sg (q ▸ e)
    · exact s.ap b e q
  · intro k e
    rcases hat with q | ⟨N, q, hN⟩
    · rw [q]; exact s.ap k e
    · rw [q]
      intro z
      cases z
      have := (s.gv.lt _ e).2
      omega
  · intro b hb
    rcases hb with q | q | q
    · exact s.dom b (.inl q)
    · rcases List.mem_append.1 q with q | q
      · exact s.dom b (.inr (.inl q))
      · rw [List.mem_singleton] at q; rw [q]; exact ⟨l, hA⟩
    · exact s.dom b (.inr (.inr q))
/-- a count has changed -/
theorem SX.cnt {Y : Nat → Prop} {S : Nat} {w : World} {st st' : Sst} {h : Nat → Option (List Int)} {vg vb : Value} (s : SX Y S w st h vg vb) (i : Nat) (v : Value) (hq : (scs st vg vb).setIfInBounds i v = scs st' vg vb) (hg : st'.gv = st.gv) (hb : st'.bk = st.bk) (hd : Dom st' h) :
    SX Y S (w.setCell ⟨S, i, none⟩ v) st' h vg vb ∧ Kp Y w (w.setCell ⟨S, i, none⟩ v) := by
  refine s.put (by rw [← hq]; exact Ba.heap_setCell_same s.hp v) (by rw [hg]; exact own_set s.gv s.sg) (by rw [hb]; exact own_set s.bk s.sb) ((KF.refl _ _).set (.inl rfl) i v) (.inl rfl) (.inl rfl) s.ap hd
set_option maxHeartbeats 3200000 in
theorem send_ok {Y : Nat → Prop} {S : Nat} {w : World} {st : Sst} {h : Nat → Option (List Int)} (s : SW Y S w st h) (c : Nat) (l : List Int) (hc : h c = some l) (hE : sendE st = 0) (hn : st.sn ≤ 1000000) (hr : st.rc ≤ st.sn) (hgl : st.gv.length ≤ 1000) :
    Calls Try.prog 10 #[.pointer (some ⟨S, 0, none⟩), .pointer (some ⟨c, 0, none⟩)] w fun r w' => r = .returned (.tuple #[clv (fetS st), .int .i64 0]) ∧ ∃ A h', h A = none ∧ Ext h h' ∧ h' A = some l ∧ SW Y S w' (sendS st A) h' ∧ Kp Y w w' := by
  obtain ⟨vg, vb, s⟩ := s
  obtain ⟨y0, y1, y2, -, -, y5⟩ := s.cells
  have hlt := s.lt
  have hcl : st.cl = none := by
    unfold sendE at hE
    cases e : st.cl with
    | none => rfl
    | some b => rw [e] at hE; simp at hE
  have hf : st.sn < st.rc + max 1 st.sz := by
    unfold sendE at hE
    rw [hcl] at hE
    simp only [Option.isSome_none, Bool.false_eq_true, if_false] at hE
    split at hE
    · cases hE
    · omega
  rw [hcl] at y5
  unfold clv at y5
  have b1 := Ba.bdrew1 w
  have yl := s.ylt
  have s1 := s.below b1
  have SR := hide (source_any s1 true)
  have TK := hide (fun u (b : Below w.drew.heap.size w.drew u) => took_any (s1.below b))
  have K1 := hide (Kp.of (X := Y) b1 yl)
  have K1' : Hid (∀ u, Below w.drew.heap.size w.drew u → Kp Y w.drew u) := fun u b => Kp.of b s1.ylt
  have EC := hide hc
  have HCL := hide hcl
  clear s s1 b1 hE hc hcl
  obtain ⟨P, hP⟩ : ∃ P, srcP S st true = P := ⟨_, rfl⟩
  rw [hP] at SR TK
  have hP2 : ∃ pa, P = .pointer pa := by
    rw [← hP]
    unfold srcP
    rw [if_pos rfl]
    split <;> exact ⟨_, rfl⟩
  obtain ⟨pa, rfl⟩ := hP2
  clear hP
  have hF2 : ∃ pf, clv (fetS st) = .pointer pf := by
    cases fetS st with
    | none => exact ⟨_, rfl⟩
    | some b => exact ⟨_, rfl⟩
  obtain ⟨pf, hpf⟩ := hF2
  rw [hpf] at TK ⊢
  have tsn : (tookS st).sn = st.sn := rfl
  have tgv : (tookS st).gv = st.gv := rfl
  suffices H : ∀ (Q : Bool), Q = decide ((1 : Int) < (st.sz : Int)) → Calls Try.prog 10 #[.pointer (some ⟨S, 0, none⟩), .pointer (some ⟨c, 0, none⟩)] w fun r w' => r = .returned (.tuple #[.pointer pf, .int .i64 0]) ∧ ∃ A h', h A = none ∧ Ext h h' ∧ h' A = some l ∧ SW Y S w' (sendS st A) h' ∧ Kp Y w w' from H _ rfl
  intro Q hQ
  have key : ∀ (G : Prop), ((¬ (1 : Int) < (st.sz : Int)) → decide ((1 : Int) ≤ (st.sn : Int) - (st.rc : Int)) = false → G) → (((1 : Int) < (st.sz : Int)) → decide ((st.sz : Int) ≤ (st.sn : Int) - (st.rc : Int)) = false → G) → G := by
    intro G g1 g2
    by_cases hz : (1 : Int) < (st.sz : Int)
    · exact g2 hz (decide_eq_false (by omega))
    · exact g1 hz (decide_eq_false (by omega))
  clear hQ
  refine key _ (fun hz d => ?_) (fun hz d => ?_)
  all_goals
    clear key
    go_enter Try.func10, Try.ntmps10
    go_wp2_with fail
    go_region
    go_wp2_with fail
    refine SR.out.mono ?_
    rintro r w1 ⟨rfl, b1⟩
    have B1 := hide b1
    have TK1 := hide (TK.out w1 b1)
    clear b1
    go_wp2_with fail
    refine TK1.out.mono ?_
    rintro r w2 ⟨⟨bb, rfl⟩, vb2, s2, k2⟩
    have b3 := Ba.bdrew1 w2
    have S3 := hide (s2.below b3)
    have K3 := hide (((K1.out.trans (K1'.out w1 B1.out)).trans k2).trans (Kp.of b3 s2.ylt))
    clear s2 k2 b3 TK1
    go_wp2_with fail
    go_region_held3 (fun _ => True) (trivial)
      (first
        | (go_at_call 39; refine (copy_sx S3.out EC.out).mono ?_; rintro r w4 ⟨A, rfl, hA, s4, k4⟩; have S4 := hide s4; have H4 := hide hA; have K4 := hide (K3.out.trans (Kp.mono k4 fun k q => .inl q)); clear s4 k4 hA; unfold ptr)
        | (go_at_call 38; refine (add_any S 3 93 (scs (tookS st) vg vb2) vg A st.gv w4 S4.out.hp rfl S4.out.gv S4.out.sg (by omega)).mono ?_; rintro r w5 ⟨rfl, v5, hS5, ho5, hat5, kf5⟩))
    obtain ⟨s5, k5⟩ := S4.out.addG (upd_same _ _ _) hS5 ho5 hat5 kf5
    have y1 : w5.cell? ⟨S, 1, none⟩ = some (.int .i64 (st.sn : Int)) := s5.cells.2.1
    have f1 : w5.frozen? ⟨S, 1, none⟩ = false := frozen_of s5.hp 1
    have S5 := hide s5
    have K5 := hide (K4.out.trans k5)
    clear s5 k5 hS5 ho5 hat5 kf5 S4 K4 S3 K3
    go_wp2_with fail
    go_ret2
    obtain ⟨s6, k6⟩ := S5.out.cnt (st' := sendS st A) 1 (.int .i64 ((st.sn : Int) + 1)) rfl rfl rfl S5.out.dom
    exact ⟨rfl, A, _, H4.out, Ext.upd H4.out, upd_same _ _ _, ⟨_, _, s6⟩, K5.out.trans k6⟩
end Sl
end Go.Proofs.Ytekdcfdjohlfcaa
