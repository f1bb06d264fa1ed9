/- Package watch, over this seat's program: find, InUse, Room, begin, New. -/
import Derived.Test.YtakbbhngcdccpaaGreatUa
namespace Go.Proofs.YtakbbhngcdccpaaGreat
open Go.ChangeShapes Go.WideShapes Go.ChangeAt Go.RowKit
namespace Wa
open Ck
open Go.Maps (Keyed int_keyed keyOf_int_mk)

theorem look_shape {D : DataW Unit} {f : Int → Option (Nat × Nat)} (h : MI D f) {g : Int} {v : Value} {ps : List MemPlace} (e : mE v = some (D.atKey (kl g) .nil, ps)) : v = fv (f g) := by
  cases hf : f g with
  | none =>
    rw [h.no hf] at e
    rcases mE_inv e with ⟨rfl, -⟩ | ⟨t, b, rfl, q⟩
    · rfl
    · cases q
  | some p =>
    obtain ⟨t, b⟩ := p
    rw [h.at_ g t b .nil hf] at e
    rcases mE_inv e with ⟨rfl, q⟩ | ⟨t', b', rfl, q⟩
    · cases q
    · obtain ⟨rfl, rfl⟩ := mD_inj (congrArg Prod.fst q)
      rfl
theorem find_nil (g : Int) (w : World) : Calls Tryz.prog 36 #[.pointer none, .int .i64 g] w fun r w' => r = .returned (.tuple #[mZ, .bool false]) ∧ Below w.heap.size w w' := by
  go_enter Tryz.func36, Tryz.ntmps36
  go_wp2_with fail
  exact bodyPost_ret (Ba.results_row2 Tryz.results36 _ _ _ _ _ rfl rfl (loadVar_tm (heap_new _ _) rfl)) rfl ⟨rfl, below_alloc _ _⟩
set_option maxRecDepth 100000 in
theorem find_some {Y : Nat → Prop} {B : Nat} {w : World} {st : Wst} {h : Nat → Option (List Int)} {mb : Nat} {D : DataW Unit} (s : WX Y B w st h mb D) (g : Int) (hg : (Lit.int .i64 g).wf = true) (t b : Nat) (hf : st.f g = some (t, b)) :
    Calls Tryz.prog 36 #[.pointer (some ⟨B, 0, none⟩), .int .i64 g] w fun r w' => r = .returned (.tuple #[mV (t : Int) b, .bool true]) ∧ Below w.heap.size w w' := by
  have y2 : w.cell? ⟨B, 2, none⟩ = some (.map (some mb)) := cell_of s.hp 2
  have hlt := s.lt
  have OW := hide (s.ow.alloc (.cells #[.int .i64 0, .pointer none] 71))
  have HK := hide (key_kl g hg)
  have LS := hide (fun v ps (e : mE v = some (D.atKey (kl g) .nil, ps)) => look_shape s.mi e)
  rw [hf] at LS
  have hh : Maps.has D (kl g) = true := by rw [s.mi.has, hf]; rfl
  unfold fv mV at LS
  unfold mV
  clear s hg
  go_enter Tryz.func36, Tryz.ntmps36
  go_wp2_with (at_lookup; refine wpList_lookup_own_ok _ rfl _ _ 74 rfl 3 71 law Tryz.underlying74 mE (zero_tm _) .nil [] mE_z mb NB D rfl OW.out _ _ rfl HK.out ?_; intro v ps hv; obtain rfl := LS.out v ps hv; clear hv)
  exact bodyPost_ret (Ba.results_row2 Tryz.results36 _ _ _ _ _ rfl rfl (loadVar_tm (Ba.heap_below (heap_new w _) (below_alloc _ _)) rfl)) rfl ⟨rfl, btr (below_alloc _ _) (below_alloc _ _)⟩
set_option maxRecDepth 100000 in
theorem find_none {Y : Nat → Prop} {B : Nat} {w : World} {st : Wst} {h : Nat → Option (List Int)} {mb : Nat} {D : DataW Unit} (s : WX Y B w st h mb D) (g : Int) (hg : (Lit.int .i64 g).wf = true) (hf : st.f g = none) :
    Calls Tryz.prog 36 #[.pointer (some ⟨B, 0, none⟩), .int .i64 g] w fun r w' => r = .returned (.tuple #[mZ, .bool false]) ∧ Below w.heap.size w w' := by
  have y2 : w.cell? ⟨B, 2, none⟩ = some (.map (some mb)) := cell_of s.hp 2
  have hlt := s.lt
  have OW := hide (s.ow.alloc (.cells #[.int .i64 0, .pointer none] 71))
  have HK := hide (key_kl g hg)
  have LS := hide (fun v ps (e : mE v = some (D.atKey (kl g) .nil, ps)) => look_shape s.mi e)
  rw [hf] at LS
  have hh : Maps.has D (kl g) = false := by rw [s.mi.has, hf]; rfl
  unfold fv mZ at LS
  unfold mZ
  clear s hg
  go_enter Tryz.func36, Tryz.ntmps36
  go_wp2_with (at_lookup; refine wpList_lookup_own_ok _ rfl _ _ 74 rfl 3 71 law Tryz.underlying74 mE (zero_tm _) .nil [] mE_z mb NB D rfl OW.out _ _ rfl HK.out ?_; intro v ps hv; obtain rfl := LS.out v ps hv; clear hv)
  exact bodyPost_ret (Ba.results_row2 Tryz.results36 _ _ _ _ _ rfl rfl (loadVar_tm (Ba.heap_below (heap_new w _) (below_alloc _ _)) rfl)) rfl ⟨rfl, btr (below_alloc _ _) (below_alloc _ _)⟩
theorem room_nil (w : World) : Calls Tryz.prog 15 #[.pointer none] w fun r w' => r = .returned (.bool false) ∧ Below w.heap.size w w' := by
  go_enter Tryz.func15, Tryz.ntmps15
  go_wp2_with fail
  go_region
  all_goals
    go_wp2_with fail
    go_ret
    exact ⟨rfl, Ba.bdrew1 _⟩
theorem room_any {Y : Nat → Prop} {B : Nat} {w : World} {st : Wst} {h : Nat → Option (List Int)} {mb : Nat} {D : DataW Unit} (s : WX Y B w st h mb D) :
    Calls Tryz.prog 15 #[.pointer (some ⟨B, 0, none⟩)] w fun r w' => r = .returned (.bool (decide (st.n < st.T))) ∧ Below w.heap.size w w' := by
  have y0 : w.cell? ⟨B, 0, none⟩ = some (.int .i64 (st.T : Int)) := cell_of s.hp 0
  have y2 : w.cell? ⟨B, 2, none⟩ = some (.map (some mb)) := cell_of s.hp 2
  have hl : ∀ ty, (Builtin.len_ #[74] ty #[.map (some mb)]).run Tryz.prog w.drew = .ok (.int .i64 (st.n : Int)) w.drew := fun ty => by rw [← s.sz]; exact s.ow.drew.len Tryz.underlying74 ty
  have e : decide (st.n < st.T) = decide ((st.n : Int) < (st.T : Int)) := by simp
  rw [e]
  clear s e
  generalize (st.n : Int) = a at *
  generalize (st.T : Int) = c at *
  go_enter Tryz.func15, Tryz.ntmps15
  go_wp2_with fail
  go_region
  all_goals
    go_wp2_with fail
    go_ret
    exact ⟨rfl, Ba.bdrew1 _⟩
/-- a list with n at t -/
def IsSet (l l' : List Int) (t : Nat) (n : Int) : Prop := Canon l' ∧ Valid l' ∧ ∀ j, nth l' j = if j = t then n else nth l j
set_option maxRecDepth 100000 in
theorem begin_any {Y : Nat → Prop} {B : Nat} {w : World} {st : Wst} {h : Nat → Option (List Int)} {mb : Nat} {D : DataW Unit} (s : WX Y B w st h mb D) (g : Int) (hg : (Lit.int .i64 g).wf = true) (t c : Nat) (l : List Int) (ht : t < 256) (hc : h c = some l) (hf : st.f g = none) (hfr : ∀ g' t', st.f g' ≠ some (t', c)) (hn : st.n < 10000) :
    Calls Tryz.prog 71 #[.pointer (some ⟨B, 0, none⟩), .int .i64 g, .int .i64 (t : Int), .pointer (some ⟨c, 0, none⟩)] w fun r w' => r = .returned (.tuple #[]) ∧ ∃ l', IsSet l l' t 1 ∧ WW Y B w' { st with n := st.n + 1, f := upf st.f g (some (t, c)) } (upd h c l') ∧ Kp Y w w' := by
  have CS := hide (cx_set s.cx (hx_at hc) t 1 ht (by decide))
  have HS := hide s
  have HK := hide (key_kl g hg)
  have hlt := s.lt
  clear s hc
  go_enter Tryz.func71, Tryz.ntmps71
  go_wp2_with fail
  refine CS.out.mono ?_
  rintro r w1 ⟨rfl, l', c1, v1, n1, cx1, kp1⟩
  have S1 : Hid (WX Y B w1 st (upd h c l') mb D) := HS.out.clk (by rw [← hx_upd]; exact cx1) kp1 (fun b' l2 e => by
    by_cases q : b' = c
    · exact ⟨l', by rw [q]; exact upd_same _ _ _⟩
    · exact ⟨l2, by rw [upd_other _ _ _ _ q]; exact e⟩)
  have L1 : Hid (IsSet l l' t 1) := ⟨c1, v1, n1⟩
  have K1 := hide (Kp.mono (Y := Y) kp1 fun k q => .inl q)
  have y2 : w1.cell? ⟨B, 2, none⟩ = some (.map (some mb)) := cell_of S1.out.hp 2
  have OT := hide (own_tight S1.out.ow (m := st.n) (by rw [S1.out.sz]; exact Nat.le_refl _))
  clear c1 v1 n1 cx1 kp1
  go_wp2_with (at_mapUpdate; refine wpList_mapUpdate_own _ rfl _ _ _ 74 rfl 3 71 law Tryz.underlying74 mE mb st.n D rfl OT.out (by unfold maxLen; omega) _ _ _ rfl rfl HK.out (mD (t : Int) c) [] (mE_v _ _) ?_; intro w2 hown2 hgrow2)
  have K2 : Hid (Kp Y w1 w2) := ⟨hgrow2.os, hgrow2.tape, hgrow2.output, hgrow2.size, fun k hk => hgrow2.block k (S1.out.ylt k hk) (fun e => S1.out.ym (by cases e; exact hk))⟩
  have S2 : Hid (WX Y B w2 { st with n := st.n + 1, f := upf st.f g (some (t, c)) } (upd h c l') mb (D.put (kl g) (mD (t : Int) c))) := by
    have s1 := S1.out
    have hsz : Maps.size (D.put (kl g) (mD (t : Int) c)) = st.n + 1 := by
      rw [Maps.size_put s1.mi.tidy, s1.mi.has, hf, s1.sz]
      rfl
    refine ⟨(hgrow2.block B s1.lt (fun e => s1.ne (by cases e; rfl))).trans s1.hp, own_tight hown2 (by rw [hsz]; show st.n + 1 ≤ 100000; omega), s1.mi.put hg t c, hsz, s1.ne, s1.yb, s1.ym, Cx.other s1.cx hgrow2.size (fun k hk hn => hgrow2.block k hk (fun e => hn (.inr (.inr (by cases e; rfl))))), ?_, ?_, ?_, ?_⟩
    · intro g' t' b' e
      change upf st.f g (some (t, c)) g' = some (t', b') at e
      by_cases q : g' = g
      · subst q
        rw [upf_same] at e
        cases e
        exact ⟨l', upd_same _ _ _⟩
      · rw [upf_other _ _ _ _ q] at e
        exact s1.dom g' t' b' e
    · intro g1 g2 t1 t2 b' e1 e2
      change upf st.f g (some (t, c)) g1 = some (t1, b') at e1
      change upf st.f g (some (t, c)) g2 = some (t2, b') at e2
      by_cases q1 : g1 = g
      · by_cases q2 : g2 = g
        · rw [q1, q2]
        · subst q1
          rw [upf_same] at e1
          cases e1
          rw [upf_other _ _ _ _ q2] at e2
          exact absurd e2 (hfr g2 t2)
      · rw [upf_other _ _ _ _ q1] at e1
        by_cases q2 : g2 = g
        · subst q2
          rw [upf_same] at e2
          cases e2
          exact absurd e1 (hfr g1 t1)
        · rw [upf_other _ _ _ _ q2] at e2
          exact s1.inj g1 g2 t1 t2 b' e1 e2
    · intro g' t' b' e
      change upf st.f g (some (t, c)) g' = some (t', b') at e
      by_cases q : g' = g
      · subst q
        rw [upf_same] at e
        cases e
        exact ht
      · rw [upf_other _ _ _ _ q] at e
        exact s1.tid g' t' b' e
    · have := s1.bd
      exact ⟨this.1, this.2.1, this.2.2.1, by show st.n + 1 ≤ 10000; omega⟩
  clear hown2 hgrow2
  go_wp2_with fail
  go_end0
  exact ⟨rfl, l', L1.out, ⟨_, _, S2.out⟩, K1.out.trans K2.out⟩
/-- New -/
theorem new_bad (t m : Int) (w : World) (hn : (t < 1 ∨ 256 < t) ∨ m < 1 ∨ 1048576 < m) : Calls Tryz.prog 46 #[.int .i64 t, .int .i64 m] w fun r w' => r = .returned (.tuple #[.pointer none, .int .i64 1]) ∧ w' = w := by
  by_cases h1 : t < 1
  · have d : decide (t < 1) = true := by simp [h1]
    go_enter Tryz.func46, Tryz.ntmps46
    go_wp2_with fail
    go_ret2
    exact ⟨rfl, rfl⟩
  · have d : decide (t < 1) = false := decide_eq_false h1
    by_cases h2 : 256 < t
    · have d2 : decide (256 < t) = true := by simp [h2]
      go_enter Tryz.func46, Tryz.ntmps46
      go_wp2_with fail
      go_ret2
      exact ⟨rfl, rfl⟩
    · have d2 : decide (256 < t) = false := decide_eq_false h2
      by_cases h3 : m < 1
      · have d3 : decide (m < 1) = true := by simp [h3]
        go_enter Tryz.func46, Tryz.ntmps46
        go_wp2_with fail
        go_ret2
        exact ⟨rfl, rfl⟩
      · have d3 : decide (m < 1) = false := decide_eq_false h3
        have d4 : decide (1048576 < m) = true := decide_eq_true (by omega)
        go_enter Tryz.func46, Tryz.ntmps46
        go_wp2_with fail
        go_ret2
        exact ⟨rfl, rfl⟩
def h0 : Nat → Option (List Int) := fun _ => none
def Lw (w : World) : Nat → Prop := fun k => k < w.heap.size
theorem Kp.lw {w w' : World} (h : Kp (Lw w) w w') : Below w.heap.size w w' := ⟨h.os, h.tape, h.output, h.size, h.block⟩
theorem cx0 (w : World) : Cx (Lw w) w (hx h0) := Cx.empty _ w fun _ h => h
theorem kp_b {Y : Nat → Prop} {w0 w w' : World} (k : Kp Y w0 w) (b : Below w.heap.size w w') (hY : ∀ x, Y x → x < w.heap.size) : Kp Y w0 w' := k.trans (Kp.of b hY)
set_option maxRecDepth 100000 in
set_option maxHeartbeats 1600000 in
theorem new_any (t m : Nat) (w : World) (ht : 1 ≤ t ∧ t ≤ 256) (hm : 1 ≤ m ∧ m ≤ 1048576) :
    Calls Tryz.prog 46 #[.int .i64 (t : Int), .int .i64 (m : Int)] w fun r w' => ∃ B c h, r = .returned (.tuple #[.pointer (some ⟨B, 0, none⟩), .int .i64 0]) ∧ WW (Lw w) B w' ⟨t, m, 1, upf (fun _ => none) 0 (some (0, c))⟩ h ∧ h c = some [1] ∧ Kp (Lw w) w w' := by
  have d1 : decide ((t : Int) < 1) = false := decide_eq_false (by omega)
  have d2 : decide (256 < (t : Int)) = false := decide_eq_false (by omega)
  have d3 : decide ((m : Int) < 1) = false := decide_eq_false (by omega)
  have d4 : decide (1048576 < (m : Int)) = false := decide_eq_false (by omega)
  have hmm := @run_makeMap Tryz.prog
  go_enter Tryz.func46, Tryz.ntmps46
  go_wp2_with fail
  have b1 := btr (below_alloc w (.map #[] 0)) (below_alloc _ (.cells #[.int .i64 (t : Int), .int .i64 (m : Int), .map (some w.heap.size)] 76))
  have S1 : Hid (WX (Lw w) (w.heap.size + 1) ((w.alloc (.map #[] 0)).alloc (.cells #[.int .i64 (t : Int), .int .i64 (m : Int), .map (some w.heap.size)] 76)) ⟨t, m, 0, fun _ => none⟩ h0 w.heap.size (.map [])) := by
    refine ⟨?_, ((World.ownsMap_made w Tryz.prog 3 mE).alloc _).mono (Nat.zero_le _), ⟨Maps.tidy_empty, fun g => rfl, fun g t b z e => (by cases e)⟩, rfl, (by omega), fun q => ?_, fun q => ?_, ?_, fun g t b e => (by cases e), fun g g' t t' b e => (by cases e), fun g t b e => (by cases e), ⟨ht.2, hm.1, hm.2, Nat.zero_le _⟩⟩
    · have := heap_new (w.alloc (.map #[] 0)) (.cells #[.int .i64 (t : Int), .int .i64 (m : Int), .map (some w.heap.size)] 76)
      rw [World.size_alloc] at this
      exact this
    · unfold Lw at q; omega
    · unfold Lw at q; omega
    · refine cx_ext (cx0 w) (fun k hk _ => b1.block k hk) ?_ ?_
      · rintro k (q | q | q)
        · exact .inl q
        · exact .inr (by omega)
        · exact .inr (by omega)
      · rintro k (q | q | q)
        · exact Nat.lt_of_lt_of_le q b1.size
        · rw [q, World.size_alloc, World.size_alloc]; omega
        · rw [q, World.size_alloc, World.size_alloc]; omega
  have K1 : Hid (Kp (Lw w) w ((w.alloc (.map #[] 0)).alloc (.cells #[.int .i64 (t : Int), .int .i64 (m : Int), .map (some w.heap.size)] 76))) := Kp.of b1 fun _ q => q
  clear b1 hmm
  generalize (w.alloc (.map #[] 0)).alloc (.cells #[.int .i64 (t : Int), .int .i64 (m : Int), .map (some w.heap.size)] 76) = w1 at *
  refine (Ck.new_any w1).mono ?_
  rintro r w2 ⟨rfl, e2⟩
  have r2 := new_rep w1
  have b2 : Below w1.heap.size w1 w2 := by rw [e2]; exact below_alloc _ _
  rw [← e2] at r2
  have hz : h0 w1.heap.size = none := rfl
  have S2 : Hid (WX (Lw w) (w.heap.size + 1) w2 ⟨t, m, 0, fun _ => none⟩ (upd h0 w1.heap.size []) w.heap.size (.map [])) := S1.out.clk (by
    rw [← hx_upd]
    exact S1.out.cx.fresh r2 (Nat.le_refl _) (fun x e => by cases e) b2 (by unfold Canon; decide) (fun k hk => absurd hk (Nat.not_lt_zero _)) w1.heap.size) (Kp.of b2 S1.out.cx.base) fun b l e => by cases e
  have K2 := hide (kp_b K1.out b2 S1.out.ylt)
  clear e2 r2 b2 S1 K1
  generalize w1.heap.size = c at *
  go_wp2_with fail
  refine (begin_any S2.out 0 (by decide) 0 c [] (by decide) (upd_same _ _ _) rfl (fun g' t' e => by cases e) (show 0 < 10000 by decide)).mono ?_
  rintro r w3 ⟨rfl, l', hl', s3, k3⟩
  have el : l' = [1] := canon_eq hl'.1 (by unfold Canon; decide) fun j => by
    rw [hl'.2.2 j]
    match j with
    | 0 => rfl
    | j + 1 => simp [nth]
  subst el
  have S3 := hide s3
  have K3 := hide (K2.out.trans k3)
  clear s3 k3 hl'
  go_wp2_with fail
  go_ret2
  exact ⟨_, c, _, rfl, S3.out, upd_same _ _ _, K3.out⟩
end Wa
end Go.Proofs.YtakbbhngcdccpaaGreat
