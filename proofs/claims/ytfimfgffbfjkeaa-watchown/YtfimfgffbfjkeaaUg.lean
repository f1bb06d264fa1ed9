/- Layer 16: the laws' own two(), over this seat's program. -/
import Derived.Test.YtfimfgffbfjkeaaUf
namespace Go.Proofs.Ytfimfgffbfjkeaa
open Go.ChangeShapes Go.WideShapes Go.ChangeAt Go.RowKit
namespace Wa
open Ck

theorem set_eq {l l' m : List Int} {t : Nat} {n : Int} (h : IsSet l l' t n) (hc : Canon m) (hm : ∀ j, nth m j = if j = t then n else nth l j) : l' = m := canon_eq h.1 hc fun j => by rw [h.2.2 j, hm j]
theorem WW.below {Y : Nat → Prop} {B : Nat} {w w' : World} {st : Wst} {h : Nat → Option (List Int)} (s : WW Y B w st h) (b : Below w.heap.size w w') : WW Y B w' st h := by
  obtain ⟨mb, D, s⟩ := s
  exact ⟨mb, D, s.below b⟩
theorem WW.ylt {Y : Nat → Prop} {B : Nat} {w : World} {st : Wst} {h : Nat → Option (List Int)} (s : WW Y B w st h) : ∀ k, Y k → k < w.heap.size := by
  obtain ⟨mb, D, s⟩ := s
  exact s.ylt
theorem WW.get {Y : Nat → Prop} {B : Nat} {w : World} {st : Wst} {h : Nat → Option (List Int)} (s : WW Y B w st h) {b : Nat} {l : List Int} (e : h b = some l) : CK w b l ∧ Canon l ∧ Valid l := by
  obtain ⟨mb, D, s⟩ := s
  exact s.cx.get (hx_at e)
theorem inuse_w {Y : Nat → Prop} {B : Nat} {w : World} {st : Wst} {h : Nat → Option (List Int)} (s : WW Y B w st h) :
    Calls Try.prog 11 #[.pointer (some ⟨B, 0, none⟩)] w fun r w' => r = .returned (.int .i64 (st.n : Int)) ∧ w' = w := by
  obtain ⟨mb, D, s⟩ := s
  exact inuse_any s
theorem list_is (b : Nat) (l : List Int) (n : Nat) (w : World) (h : CK w b l) (hn : l.length = n) :
    Calls Try.prog 26 #[.pointer (some ⟨b, 0, none⟩)] w fun r w' => ∃ oa, r = .returned (.slice oa n n) ∧ Ck.At w' oa l ∧ Below w.heap.size w w' := by
  subst hn
  refine (list_any b l w h).mono ?_
  rintro r w' ⟨rfl, rfl⟩
  exact ⟨_, rfl, At.new _ _ _, below_alloc _ _⟩
theorem ints_b (oa ob : Option Addr) (l m : List Int) (n k c d : Nat) (x : Bool) (hx : decide (l = m) = x) (hn : l.length = n) (hk : m.length = k) (w : World) (hA : Ck.At w oa l) (hB : Ck.At w ob m) (hl : n ≤ 256) (hm : k ≤ 256) :
    Calls Try.prog 25 #[.slice oa n c, .slice ob k d] w fun r w' => r = .returned (.bool x) ∧ Below w.heap.size w w' := by
  refine (ints_is oa ob l m n k c d x hx hn hk w hA hB hl hm).mono ?_
  rintro r w' ⟨rfl, q, rfl⟩
  exact ⟨rfl, bdrew _ _⟩
def f0 : Int → Option (Nat × Nat) := fun _ => none
theorem used1 (c : Nat) (t : Nat) : Used (upf f0 0 (some (0, c))) t ↔ t = 0 := by
  constructor
  · rintro ⟨g, b, e⟩
    by_cases q : g = 0
    · subst q; rw [upf_same] at e; cases e; rfl
    · rw [upf_other _ _ _ _ q] at e; cases e
  · rintro rfl
    exact ⟨0, c, upf_same _ _ _⟩
set_option maxRecDepth 100000 in
set_option maxHeartbeats 12800000 in
theorem two_any (w : World) : Calls Try.prog 8 #[] w fun r w' => r = .returned (.bool true) ∧ Below w.heap.size w w' := by
  have NW := hide (new_any 2 9 w (by decide) (by decide))
  go_enter Try.func8, Try.ntmps8
  go_wp2_with fail
  refine NW.out.mono ?_
  rintro r w1 ⟨B, c0, h1, rfl, s1, e1, k1⟩
  have S1 : Hid (WW (Lw w) B w1 ⟨2, 9, 1, upf f0 0 (some (0, c0))⟩ h1) := s1
  have E1 := hide e1
  have K1 := hide k1
  clear s1 e1 k1 NW
  go_wp2_with fail
  refine (spawn_ok S1.out 0 5 (by decide) (by decide) (by decide) 0 c0 1 [1] rfl rfl E1.out (by show 1 < 2; decide) (by decide) (fun q => by have := (used1 c0 1).1 q; cases this) (fun t ht => (used1 c0 t).2 (by omega))).mono ?_
  rintro r w2 ⟨rfl, A5, l5, n5, i5, s2, k2⟩
  have el5 : l5 = [1, 1] := set_eq i5 (by unfold Canon; decide) (fun j => by match j with | 0 => rfl | 1 => rfl | j + 2 => simp [nth])
  subst el5
  have h5c : c0 ≠ A5 := fun q => by rw [← q, E1.out] at n5; cases n5
  have S2 : Hid (WW (Lw w) B w2 ⟨2, 9, 2, upf (upf f0 0 (some (0, c0))) 5 (some (1, A5))⟩ (upd h1 A5 [1, 1])) := s2
  have E2 : Hid (upd h1 A5 [1, 1] c0 = some [1]) := by rw [upd_other _ _ _ _ h5c]; exact E1.out
  have E25 : Hid (upd h1 A5 [1, 1] A5 = some [1, 1]) := upd_same _ _ _
  have K2 := hide (K1.out.trans k2)
  generalize upd h1 A5 [1, 1] = h2 at *
  clear s2 k2 i5 n5 S1 K1 E1
  go_wp2_with fail
  refine (tell_ok S2.out 5 (by decide) 1 A5 [1, 1] rfl E25.out (show nth [1, 1] 1 < ((9 : Nat) : Int) by decide)).mono ?_
  rintro r w3 ⟨C, l', rfl, nC, i3, s3, k3⟩
  have el' : l' = [1, 2] := set_eq i3 (by unfold Canon; decide) (fun j => by match j with | 0 => rfl | 1 => rfl | j + 2 => simp [nth])
  subst el'
  have hC0 : c0 ≠ C := fun q => by rw [← q, E2.out] at nC; cases nC
  have hC5 : C ≠ A5 := fun q => by rw [q, E25.out] at nC; cases nC
  have S3 := hide s3
  have E3 : Hid (upd (upd h2 C [1, 1]) A5 [1, 2] c0 = some [1]) := by rw [upd_other _ _ _ _ h5c, upd_other _ _ _ _ hC0]; exact E2.out
  have EC3 : Hid (upd (upd h2 C [1, 1]) A5 [1, 2] C = some [1, 1]) := by rw [upd_other _ _ _ _ hC5]; exact upd_same _ _ _
  have K3 := hide (K2.out.trans k3)
  generalize upd (upd h2 C [1, 1]) A5 [1, 2] = h3 at *
  clear s3 k3 i3 nC S2 K2 E2 E25
  go_wp2_with fail
  refine (know_any S3.out 0 (by decide) 0 c0 C [1] [1, 1] rfl E3.out EC3.out).mono ?_
  rintro r w4 ⟨rfl, s4, k4⟩
  have ej : jn [1] [1, 1] = [1, 1] := by decide
  rw [ej] at s4
  have S4 := hide s4
  have E4 : Hid (upd h3 c0 [1, 1] c0 = some [1, 1]) := upd_same _ _ _
  have EC4 : Hid (upd h3 c0 [1, 1] C = some [1, 1]) := by rw [upd_other _ _ _ _ (Ne.symm hC0)]; exact EC3.out
  have K4 := hide (K3.out.trans k4)
  generalize upd h3 c0 [1, 1] = h4 at *
  clear s4 k4 ej S3 K3 E3 EC3
  go_wp2_with fail
  refine (spawn_full S4.out 0 6 (by decide) (by decide) (by decide) 0 c0 rfl rfl (by show 2 ≤ 2; decide)).mono ?_
  rintro r w5 ⟨rfl, b5⟩
  have S5 := hide (S4.out.below b5)
  have K5 := hide (kp_b K4.out b5 S4.out.ylt)
  clear b5 S4 K4
  go_wp2_with fail
  refine (retire_ok S5.out 5 (by decide) 1 A5 rfl).mono ?_
  rintro r w6 ⟨rfl, h6, fo, s6, k6⟩
  have S6 : Hid (WW (Lw w) B w6 ⟨2, 9, 1, upf (upf (upf f0 0 (some (0, c0))) 5 (some (1, A5))) 5 none⟩ h6) := s6
  have hfg : ∀ g t b, upf (upf (upf f0 0 (some (0, c0))) 5 (some (1, A5))) 5 none g = some (t, b) → g = 0 ∧ t = 0 ∧ b = c0 := fun g t b e => by
    by_cases q : g = 5
    · subst q; rw [upf_same] at e; cases e
    · rw [upf_other _ _ _ _ q, upf_other _ _ _ _ q] at e
      by_cases q0 : g = 0
      · subst q0; rw [upf_same] at e; cases e; exact ⟨rfl, rfl, rfl⟩
      · rw [upf_other _ _ _ _ q0] at e; cases e
  have E6 : Hid (h6 c0 = some [1]) := by
    have := fo.mem 0 0 c0 [1, 1] rfl E4.out
    simp only [Bool.false_eq_true, if_false] at this
    obtain ⟨l2, i2, e2⟩ := this
    have : l2 = [1] := set_eq i2 (by unfold Canon; decide) (fun j => by match j with | 0 => rfl | 1 => rfl | j + 2 => simp [nth])
    rw [this] at e2
    exact e2
  have EC6 := hide (fo.oth C [1, 1] EC4.out (fun g t e => hC0 (hfg g t C e).2.2.symm))
  have K6 := hide (K5.out.trans k6)
  have HFG := hide hfg
  clear s6 k6 fo S5 K5 E4 EC4 hfg
  go_wp2_with fail
  refine (spawn_ok S6.out 0 6 (by decide) (by decide) (by decide) 0 c0 1 [1] rfl rfl E6.out (by show 1 < 2; decide) (by decide) (fun ⟨g, b, e⟩ => by have := (HFG.out g 1 b e).2.1; cases this) (fun t ht => by
    obtain rfl : t = 0 := by omega
    exact ⟨0, c0, rfl⟩)).mono ?_
  rintro r w7 ⟨rfl, A6, l6, n6, i6, s7, k7⟩
  have hC6 : C ≠ A6 := fun q => by rw [← q, EC6.out] at n6; cases n6
  have S7 : Hid (WW (Lw w) B w7 ⟨2, 9, 2, upf (upf (upf (upf f0 0 (some (0, c0))) 5 (some (1, A5))) 5 none) 6 (some (1, A6))⟩ (upd h6 A6 l6)) := s7
  have EC7 : Hid (upd h6 A6 l6 C = some [1, 1]) := by rw [upd_other _ _ _ _ hC6]; exact EC6.out
  have K7 := hide (K6.out.trans k7)
  clear s7 k7 i6 n6 S6 K6 E6 EC6 HFG
  go_wp2_with fail
  refine (list_is C [1, 1] 2 w7 (S7.out.get EC7.out).1 rfl).mono ?_
  rintro r w8 ⟨oa8, rfl, t8, b8⟩
  have T8 := hide t8
  have B8 := hide b8
  clear t8 b8
  go_wp2_with fail
  refine (ints_b _ _ [1, 1] [1, 1] _ _ _ _ true (by decide) (by rfl) (by rfl) _ (T8.out.below (below_alloc _ _)) (At.lit _ _ _ _ (by rfl)) (by decide) (by decide)).mono ?_
  rintro r w9 ⟨rfl, b9⟩
  have B9 := hide (btr B8.out (btr (below_alloc _ _) b9))
  clear b9 T8 B8
  go_wp2_with fail
  refine (inuse_w (S7.out.below B9.out)).mono ?_
  rintro r wa ⟨rfl, ea⟩
  obtain rfl := ea.symm
  have K9 := hide (kp_b K7.out B9.out S7.out.ylt)
  go_wp2_with fail
  go_ret
  exact ⟨rfl, Kp.lw K9.out⟩
end Wa
end Go.Proofs.Ytfimfgffbfjkeaa
