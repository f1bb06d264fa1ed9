/- Every n, pairs and number: MatrixSets answers true: pair by pair, what is related, to which, by which. -/
import Derived.Test.YtdfjcmlafhannaaNb9
import Derived.Test.YtdfjcmlafhannaaBo
import Derived.Deep.Cut
import Derived.Deep.RegionHeld3
import Derived.ShutString
import Derived.ChangeOld
import Derived.Below
namespace Go.Proofs.Ytdfjcmlafhannaa.matrixSets
open Go.ChangeShapes Go.WideShapes Go.ChangeAt Go.RowKit
open Go.ChangeMaps (open_string shut_string)
open Mx

theorem own : ownKnob Try.prog.godebug = none := by kernel_rfl
theorem laidOut : laidOutB Try.prog = true := by kernel_rfl

set_option maxRecDepth 100000 in
set_option maxHeartbeats 1600000 in
theorem small {w : World} (n : Int) (oa : Option Addr) (len c : Nat) (i : Int) (hm : len ≤ maxLen) (h : (200 < n ∧ n ≤ 1024) ∨ 400 < len) :
    Calls Try.prog 3 #[.int .i64 n, .slice oa len c, .int .i64 i] w fun e w' => e = .returned (.bool true) ∧ Below w.heap.size w w' := by
  unfold maxLen at hm
  have TH := Mx.hide (three_any w)
  have key : ∀ a b d : Bool, decide (200 < n) = a → decide (n ≤ 1024) = b → decide ((400 : Int) < (len : Int)) = d → ((a && b) || d) = true → Calls Try.prog 3 #[.int .i64 n, .slice oa len c, .int .i64 i] w fun e w' => e = .returned (.bool true) ∧ Below w.heap.size w w' := by
    intro a b d ha hb hd hab
    have hd2 : decide (400 < len) = d := by rw [← hd, decide_eq_decide]; omega
    clear h
    cases a <;> cases b <;> cases d
    all_goals
      first
      | (exfalso; revert hab; decide)
      | (clear hab
         go_enter Try.func3, Try.ntmps3
         go_wp2_with fail
         refine TH.out.mono ?_
         rintro r w1 ⟨rfl, b1⟩
         have B1 := Mx.hide b1
         clear b1
         go_wp2_with fail
         go_ret
         exact ⟨rfl, B1.out⟩)
  refine key _ _ _ rfl rfl rfl ?_
  rcases h with h | h
  · simp [h.1, h.2]
  · have : (400 : Int) < (len : Int) := by omega
    simp [this]
set_option maxRecDepth 100000 in
set_option maxHeartbeats 1600000 in
theorem outside {w : World} (n : Int) (oa : Option Addr) (len c : Nat) (i : Int) (hl : len ≤ 400) (h : n < 0 ∨ 1024 < n) :
    Calls Try.prog 3 #[.int .i64 n, .slice oa len c, .int .i64 i] w fun e w' => e = .returned (.bool true) ∧ Below w.heap.size w w' := by
  have TH := Mx.hide (three_any w)
  have N1 := Mx.hide (new_bad n h w)
  have N2 := Mx.hide (rnew_bad n h w)
  have a2 : decide ((400 : Int) < (len : Int)) = false := by simp; omega
  have a3 : decide (400 < len) = false := by simp; omega
  have key : ∀ a b : Bool, decide (200 < n) = a → decide (n ≤ 1024) = b → (a && b) = false → Calls Try.prog 3 #[.int .i64 n, .slice oa len c, .int .i64 i] w fun e w' => e = .returned (.bool true) ∧ Below w.heap.size w w' := by
    intro a b ha hb hab
    clear h
    cases a <;> cases b
    all_goals
      first
      | (exfalso; revert hab; decide)
      | (clear hab
         go_enter Try.func3, Try.ntmps3
         go_wp2_with fail
         refine N1.out.mono ?_
         rintro r w1 ⟨rfl, e1⟩
         obtain rfl := e1.symm
         go_wp2_with fail
         refine N2.out.mono ?_
         rintro r w1 ⟨rfl, e1⟩
         obtain rfl := e1.symm
         go_wp2_with fail
         refine TH.out.mono ?_
         rintro r w1 ⟨rfl, b1⟩
         have B1 := Mx.hide b1
         clear b1
         go_wp2_with fail
         go_ret
         exact ⟨rfl, B1.out⟩)
  refine key _ _ rfl rfl ?_
  rcases h with h | h
  · simp [show ¬ (200 < n) by omega]
  · simp [show ¬ (n ≤ 1024) by omega]
set_option maxRecDepth 100000 in
set_option maxHeartbeats 12800000 in
theorem core {w : World} (n : Int) (oa : Option Addr) (l : List (Int × Int)) (c : Nat) (hA : PAt w oa l) (hm : l.length ≤ maxLen) (ii : Int) :
    Calls Try.prog 3 #[.int .i64 n, .slice oa l.length c, .int .i64 ii] w fun e w' => e = .returned (.bool true) ∧ Below w.heap.size w w' := by
  by_cases hs : (200 < n ∧ n ≤ 1024) ∨ 400 < l.length
  · exact small n oa l.length c ii hm hs
  · by_cases h0 : n < 0 ∨ 1024 < n
    · exact outside n oa l.length c ii (by omega) h0
    obtain ⟨m, rfl⟩ := Int.eq_ofNat_of_zero_le (show 0 ≤ n by omega)
    have hm60 : m ≤ 200 := by omega
    have hl200 : l.length ≤ 400 := by omega
    have a2 : decide ((200 : Int) < (m : Int)) = false := by simp; omega
    have a3 : decide ((400 : Int) < (l.length : Int)) = false := by simp; omega
    have a4 : decide (400 < l.length) = false := by simp; omega
    obtain ⟨i0, hi, hz0, hz1, hz2⟩ := info_parts Ba.info_int
    have INF := Mx.hide (And.intro hi (And.intro hz0 (And.intro hz1 hz2)))
    have PA := Mx.hide hA
    have NW := Mx.hide (fun u : World => new_ok m (by omega) u)
    have NR := Mx.hide (fun u : World => rnew_ok m (by omega) u)
    clear hs hA hm h0 hi hz0 hz1 hz2
    obtain ⟨N, hN⟩ : ∃ N, w.heap.size = N := ⟨_, rfl⟩
    have HN := Mx.hide hN
    rw [hN]
    go_enter Try.func3, Try.ntmps3
    go_wp2_with fail
    refine (NW.out _).mono ?_
    rintro e w1 ⟨rfl, m1, b1⟩
    rw [hN] at m1 b1 ⊢
    have M1 := Mx.hide m1
    have B1 := Mx.hide b1
    obtain ⟨N2, hN2⟩ : ∃ N2, w1.heap.size = N2 := ⟨_, rfl⟩
    have hNN : N + 2 < N2 := by rw [← hN2]; exact m1.cell_lt
    clear m1 b1 hN
    go_wp2_with fail
    refine (NR.out _).mono ?_
    rintro e w2 ⟨rfl, ⟨v0, bs0, x2⟩, b2⟩
    rw [hN2] at x2 b2 ⊢
    have M2 : Hid (∃ v bs, RX w2 N2 N2 m (Mx.hs no) v bs) := ⟨v0, bs0, by rw [no_hs]; exact x2⟩
    have M1' := Mx.hide (M1.out.below (by rw [hN2]; exact b2))
    have B2 : Hid (Below N w w2) := B1.out.trans (b2.mono (by omega))
    clear x2 b2 M1 B1 NW NR hN2
    go_wp2_with fail
    go_loopw [56] (fun s wr => ∃ j : Nat, j ≤ l.length ∧ s = .int .i64 (j : Int) ∧ MW wr (N + 2) (N + 1) N m (sets m no (l.take j)) ∧ (∃ v bs, RX wr N2 N2 m (Mx.hs (sets m no (l.take j))) v bs) ∧ Below N w wr) (fun s _ => l.length - (intOf s).toNat)
    case atStart => exact ⟨0, Nat.zero_le _, rfl, M1'.out, M2.out, B2.out⟩
    case round =>
      obtain ⟨j, hj, rfl, x1, ⟨v1, bs1, x2⟩, bl⟩ := hrel
      clear M1' M2 B2
      by_cases hlt : j < l.length
      · have hlt' : (j : Int) < (l.length : Int) := by omega
        obtain ⟨p, hp⟩ := pair_lt hlt
        obtain ⟨b, off, rfl, q1, q2⟩ := PA.out.below (by rw [HN.out]; exact bl) j p hp
        have BA := Ba.btr (Ba.below_alloc wr (.cells #[.int .i64 p.1, .int .i64 p.2] 32)) (Ba.bdrew1 _)
        have hsz : N ≤ wr.heap.size := by have := bl.size; rw [HN.out] at this; exact this
        have hlt1 := x1.cell_lt
        have hlt2 := Ba.heap_lt x2.hd
        have X1 := Mx.hide (x1.below BA)
        have X2 := Mx.hide (x2.below BA)
        have BL : Hid (Below N w (wr.alloc (.cells #[.int .i64 p.1, .int .i64 p.2] 32)).drew) := bl.trans (BA.mono hsz)
        have PC : Hid ((wr.alloc (.cells #[.int .i64 p.1, .int .i64 p.2] 32)).drew.heap[wr.heap.size]? = some (.cells #[.int .i64 p.1, .int .i64 p.2] 32)) := Ba.heap_new wr (.cells #[.int .i64 p.1, .int .i64 p.2] 32)
        have S1 := Mx.hide (sets_take (n := m) (r := no) hp)
        obtain ⟨p1, p2⟩ := p
        simp only at q1 q2 X1 X2 BL PC S1
        clear x1 x2 bl BA hp
        go_wp2_with fail
        have d0 : (wr.alloc (.cells #[.int .i64 p1, .int .i64 p2] 32)).cell? ⟨wr.heap.size, 0, none⟩ = some (.int .i64 p1) := by rw [Ba.cell_of (Ba.heap_new _ _)]; rfl
        have d1 : (wr.alloc (.cells #[.int .i64 p1, .int .i64 p2] 32)).cell? ⟨wr.heap.size, 1, none⟩ = some (.int .i64 p2) := by rw [Ba.cell_of (Ba.heap_new _ _)]; rfl
        generalize wr.alloc (.cells #[.int .i64 p1, .int .i64 p2] 32) = W1 at *
        obtain ⟨A, hA⟩ : ∃ A, wr.heap.size = A := ⟨_, rfl⟩
        rw [hA] at hlt1 hlt2 hsz PC d0 d1 ⊢
        clear hA
        have T1 := Mx.hide (set_any X1.out p1 p2)
        have T2 : Hid (∀ w3 : World, Ba.KB N W1.drew w3 → Calls Try.prog 12 #[.pointer (some ⟨N2, 0, none⟩), .int .i64 p1, .int .i64 p2] w3 fun e w' => e = .returned (.int .i64 (setE m p1 p2)) ∧ RX w' N2 N2 m (Mx.hs (setR m (sets m no (l.take j)) p1 p2)) v1 bs1 ∧ Below N2 w3 w' ∧ (∀ (j : Nat) (d : Array Value) (s : TypeId), w3.heap[j]? = some (.cells d s) → s ≠ 4 → w'.heap[j]? = some (.cells d s))) := fun w3 k3 => by
          rw [← hs_setR]; exact rset_any (X2.out.kb k3 (by omega)) p1 p2
        have T3 : Hid (∀ w3 w4 : World, MW w3 (N + 2) (N + 1) N m (setR m (sets m no (l.take j)) p1 p2) → Below N2 w3 w4 → Calls Try.prog 13 #[.pointer (some ⟨N + 2, 0, none⟩), .int .i64 p1, .int .i64 p2] w4 fun e w' => e = .returned (.bool (hsI m (setR m (sets m no (l.take j)) p1 p2) p1 p2)) ∧ ∃ q, w' = w4.drewN q) := fun w3 w4 m3 b4 => has_any (m3.bel b4 (by omega) (by omega) (by omega)) p1 p2
        have T4 : Hid (∀ w5 : World, RX w5 N2 N2 m (Mx.hs (setR m (sets m no (l.take j)) p1 p2)) v1 bs1 → Calls Try.prog 14 #[.pointer (some ⟨N2, 0, none⟩), .int .i64 p1, .int .i64 p2] w5 fun e w' => e = .returned (.bool (hsI m (setR m (sets m no (l.take j)) p1 p2) p1 p2)) ∧ w' = w5) := fun w5 x5 => rhas_any x5 p1 p2
        have SB : Hid (∀ w3 : World, Ba.KB N W1.drew w3 → w3.cell? ⟨A, 0, none⟩ = some (.int .i64 p1) ∧ w3.cell? ⟨A, 1, none⟩ = some (.int .i64 p2)) := fun w3 k3 => by
          have e := k3.heap PC.out (by omega)
          exact ⟨by rw [Ba.cell_of e]; rfl, by rw [Ba.cell_of e]; rfl⟩
        have SC : Hid (∀ w3 w4 : World, Ba.KB N W1.drew w3 → (∀ (j : Nat) (d : Array Value) (s : TypeId), w3.heap[j]? = some (.cells d s) → s ≠ 4 → w4.heap[j]? = some (.cells d s)) → w4.cell? ⟨A, 0, none⟩ = some (.int .i64 p1) ∧ w4.cell? ⟨A, 1, none⟩ = some (.int .i64 p2)) := fun w3 w4 k3 k4 => by
          have e := k4 _ _ _ (k3.heap PC.out (by omega)) (by decide)
          exact ⟨by rw [Ba.cell_of e]; rfl, by rw [Ba.cell_of e]; rfl⟩
        generalize hsI m (setR m (sets m no (l.take j)) p1 p2) p1 p2 = zz at *
        generalize setE m p1 p2 = ee at *
        have hz : (zz != zz) = false := by simp
        have hsz1 : N ≤ W1.drew.heap.size := by have := Ba.heap_lt PC.out; omega
        go_region_held3 (fun w' => w'.cell? ⟨A, 0, none⟩ = some (.int .i64 p1) ∧ w'.cell? ⟨A, 1, none⟩ = some (.int .i64 p2))
          (first | (go_keep; done) | exact SC.out _ _ k3 k4 | exact SB.out _ k3)
          ((first
            | (go_at_call 11; refine T1.out.mono ?_; rintro e w3 ⟨rfl, m3, k3⟩)
            | (go_at_call 12; refine (T2.out _ k3).mono ?_; rintro e w4 ⟨rfl, x4, b4, k4⟩)
            | (go_at_call 13; refine (T3.out _ _ m3 b4).mono ?_; rintro e w5 ⟨rfl, q5, rfl⟩)
            | (go_at_call 14; refine (T4.out _ (x4.below (Ba.bdrew _ q5))).mono ?_; rintro e w6 ⟨rfl, rfl⟩)))
        have M6 : Hid (MW (w4.drewN q5) (N + 2) (N + 1) N m (sets m no (l.take (j + 1)))) := by rw [S1.out]; exact (m3.bel b4 (by omega) (by omega) (by omega)).drw q5
        have M5 : Hid (∃ v bs, RX (w4.drewN q5) N2 N2 m (Mx.hs (sets m no (l.take (j + 1)))) v bs) := ⟨_, _, by rw [S1.out]; exact x4.below (Ba.bdrew _ q5)⟩
        have B4 : Hid (Below N w (w4.drewN q5)) := by
          have y3 : Below N w w3 := bel_kb BL.out k3 hsz1 (by omega)
          have y4 : Below N w w4 := y3.trans (b4.mono (by omega))
          exact bel_drw y4 (Nat.le_trans hsz1 (Nat.le_trans k3.size b4.size)) q5
        clear m3 k3 x4 b4 k4 T1 T2 T3 T4 SB SC PC BL X1 X2
        go_wp2_with fail
        go_roundw
        case rel => exact ⟨j + 1, by omega, by go_num, M6.out, M5.out, B4.out⟩
        case measure => simp [intOf]; omega
      · have hlt' : ¬ ((j : Int) < (l.length : Int)) := by omega
        have ej : l.take j = l := List.take_of_length_le (by omega)
        rw [ej] at x1 x2
        have hlt2 := Ba.heap_lt x2.hd
        have hlt1 := x1.cell_lt
        have X1 := Mx.hide x1
        have X2 := Mx.hide x2
        have BL := Mx.hide bl
        clear x1 x2 bl ej PA
        generalize sets m no l = r at *
        go_wp2_with fail
        clear hlt hlt' hj
        rename World => wS
        obtain ⟨K, hK⟩ : ∃ K, wS.heap.size = K := ⟨_, rfl⟩
        have HK := Mx.hide hK
        rw [hK] at hlt1 hlt2
        clear hK
        have Z1 := Mx.hide (fun (u : World) (b : Below K wS u) => X1.out.below (by rw [HK.out]; exact b))
        have RH : Hid (∀ (u : World) (b : Below K wS u) (a c : Int), Calls Try.prog 14 #[.pointer (some ⟨N2, 0, none⟩), .int .i64 a, .int .i64 c] u fun e w' => e = .returned (.bool (hsI m r a c)) ∧ w' = u) := fun u b a c => rhas_any (X2.out.below (by rw [HK.out]; exact b)) a c
        have BN : Hid (∀ u : World, Below K wS u → Below N w u) := fun u b => BL.out.trans (b.mono (by omega))
        have TB := Mx.hide (fun a => total_le r m a)
        clear X1 X2 BL
        go_loopw [13, 14, 15, 16, 17] (fun s1 s2 s3 s4 s wr => ∃ (k : Nat) (v1 v2 v3 : Value), k ≤ m ∧ s = .int .i64 (k : Int) ∧ s1 = v1 ∧ s2 = v2 ∧ s3 = v3 ∧ s4 = .int .i64 (total r m k : Int) ∧ R3 wr K v1 v2 v3 (ps (fun k => hsI m r ii (k : Int)) k) (ps (fun k => hsI m r (k : Int) ii) k) (ps (fun k => hsI m r (k : Int) (k : Int)) k) ∧ Below K wS wr) (fun _ _ _ _ s _ => m - (intOf s).toNat)
        case atStart => exact ⟨0, _, _, _, Nat.zero_le _, rfl, rfl, rfl, rfl, rfl, R3.nil _ _, by rw [← HK.out]; exact Below.refl _ _⟩
        case round =>
          obtain ⟨k, v1, v2, v3, hk, rfl, rfl, rfl, rfl, rfl, r3, bl⟩ := hrel
          have tb : total r m k ≤ 40000 := Nat.le_trans (TB.out k) (Nat.le_trans (Nat.mul_le_mul hm60 (Nat.le_trans hk hm60)) (by decide))
          have R := Mx.hide r3
          have BB := Mx.hide bl
          have hsw : K ≤ wr.heap.size := by have := bl.size; rw [HK.out] at this; exact this
          obtain ⟨o1, c1, e1, -⟩ := r3.at1
          obtain ⟨o2, c2, e2, -⟩ := r3.s12.at1
          obtain ⟨o3, c3, e3, -⟩ := r3.s13.at1
          subst e1 e2 e3
          clear r3 bl
          have l1 := ps_len (fun k => hsI m r ii (k : Int)) k
          have l2 := ps_len (fun k => hsI m r (k : Int) ii) k
          have l3 := ps_len (fun k => hsI m r (k : Int) (k : Int)) k
          by_cases hltk : k < m
          · have hltk' : (k : Int) < (m : Int) := by omega
            have P1 := Mx.hide (ps_succ (fun k => hsI m r ii (k : Int)) k)
            have P2 := Mx.hide (ps_succ (fun k => hsI m r (k : Int) ii) k)
            have P3 := Mx.hide (ps_succ (fun k => hsI m r (k : Int) (k : Int)) k)
            have TS : Hid (total r m (k + 1) = total r m k + cnt (r k) m) := rfl
            generalize ps (fun k => hsI m r ii (k : Int)) k = A at *
            generalize ps (fun k => hsI m r (k : Int) ii) k = B at *
            generalize ps (fun k => hsI m r (k : Int) (k : Int)) k = CC at *
            generalize total r m k = T at *
            have HC1 := Mx.hide (RH.out _ BB.out ii (k : Int))
            cases h1 : hsI m r ii (k : Int)
            · rw [h1] at HC1
              go_wp2_with fail
              refine HC1.out.mono ?_
              rintro e wz ⟨rfl, ez⟩
              obtain rfl := ez.symm
              clear HC1
              have HC2 := Mx.hide (RH.out _ BB.out (k : Int) ii)
              cases h2 : hsI m r (k : Int) ii
              · rw [h2] at HC2
                go_wp2_with fail
                refine HC2.out.mono ?_
                rintro e wz ⟨rfl, ez⟩
                obtain rfl := ez.symm
                clear HC2
                have HC3 := Mx.hide (RH.out _ BB.out (k : Int) (k : Int))
                cases h3 : hsI m r (k : Int) (k : Int)
                · rw [h3] at HC3
                  go_wp2_with fail
                  refine HC3.out.mono ?_
                  rintro e wz ⟨rfl, ez⟩
                  obtain rfl := ez.symm
                  clear HC3
                  have E3 : Hid (R3 wr K (.slice o1 A.length c1) (.slice o2 B.length c2) (.slice o3 CC.length c3) (ps (fun k => hsI m r ii (k : Int)) (k + 1)) (ps (fun k => hsI m r (k : Int) ii) (k + 1)) (ps (fun k => hsI m r (k : Int) (k : Int)) (k + 1))) := R.out.congr (by rw [P1.out]; simp [h1]) (by rw [P2.out]; simp [h2]) (by rw [P3.out]; simp [h3])
                  have E4 := BB
                  clear h1 h2 h3
                  go_wp2_with fail
                  go_loopw [16, 18] (fun s4 s wq => ∃ jj : Nat, jj ≤ m ∧ s = .int .i64 (jj : Int) ∧ s4 = .int .i64 ((T + cnt (r k) jj : Nat) : Int) ∧ wq = wr) (fun _ s _ => m - (intOf s).toNat)
                  case atStart => exact ⟨0, Nat.zero_le _, rfl, rfl, rfl⟩
                  case round =>
                    obtain ⟨jj, hjj, rfl, rfl, rfl⟩ := hrel
                    have hcn := cnt_le (r k) jj
                    by_cases hltj : jj < m
                    · have hltj' : (jj : Int) < (m : Int) := by omega
                      have HH := Mx.hide (RH.out _ E4.out (k : Int) (jj : Int))
                      have CS : Hid (cnt (r k) (jj + 1) = cnt (r k) jj + (if hsI m r (k : Int) (jj : Int) then 1 else 0)) := by rw [hsI_nat m r k jj hltk hltj]; rfl
                      generalize cnt (r k) jj = cj at *
                      obtain ⟨Tc, hTc⟩ : ∃ Tc, T + cj = Tc := ⟨_, rfl⟩
                      have hTb : Tc ≤ 50000 := by omega
                      have HT := Mx.hide hTc
                      rw [hTc]
                      clear hTc
                      cases hz : hsI m r (k : Int) (jj : Int)
                      · rw [hz] at HH CS
                        have CS2 : Hid (cnt (r k) (jj + 1) = cj) := by show _ = _; rw [CS.out]; simp
                        clear hz CS
                        go_wp2_with fail
                        refine HH.out.mono ?_
                        rintro e wz ⟨rfl, ez⟩
                        obtain rfl := ez.symm
                        go_wp2_with fail
                        go_roundw
                        case rel =>
                          first
                          | exact ⟨jj + 1, by omega, by go_num, by rw [CS2.out, HT.out], by first | rfl | trivial⟩
                          | ((repeat apply Exists.intro); exact ⟨⟨jj + 1, by omega, by go_num, by rw [CS2.out, HT.out], by first | rfl | trivial⟩, rfl⟩)
                        case measure => simp [intOf]; omega
                      · rw [hz] at HH CS
                        have CS2 : Hid (cnt (r k) (jj + 1) = cj + 1) := by show _ = _; rw [CS.out]; simp
                        clear hz CS
                        go_wp2_with fail
                        refine HH.out.mono ?_
                        rintro e wz ⟨rfl, ez⟩
                        obtain rfl := ez.symm
                        go_wp2_with fail
                        go_roundw
                        case rel =>
                          first
                          | exact ⟨jj + 1, by omega, by go_num, by rw [CS2.out, ← Nat.add_assoc, HT.out]; go_num, by first | rfl | trivial⟩
                          | ((repeat apply Exists.intro); exact ⟨⟨jj + 1, by omega, by go_num, by rw [CS2.out, ← Nat.add_assoc, HT.out]; go_num, by first | rfl | trivial⟩, rfl⟩)
                        case measure => simp [intOf]; omega
                    · have hltj' : ¬ ((jj : Int) < (m : Int)) := by omega
                      obtain rfl : m = jj := by omega
                      go_wp2_with fail
                      go_roundw
                      case rel =>
                        first
                        | exact ⟨k + 1, _, _, _, by omega, by go_num, rfl, rfl, rfl, by rw [TS.out], E3.out, E4.out⟩
                        | ((repeat apply Exists.intro); exact ⟨⟨k + 1, _, _, _, by omega, by go_num, rfl, rfl, rfl, by rw [TS.out], E3.out, E4.out⟩, rfl⟩)
                      case measure => simp [intOf]; omega
                · rw [h3] at HC3
                  go_wp2_with fail
                  refine HC3.out.mono ?_
                  rintro e wz ⟨rfl, ez⟩
                  obtain rfl := ez.symm
                  clear HC3
                  have BY3 := Ba.below_alloc wr (.cells #[.int .i64 (k : Int)] 3)
                  have Rb3 := Mx.hide (R.out.below BY3)
                  have Bb3 : Hid (Below K wS (wr.alloc (.cells #[.int .i64 (k : Int)] 3))) := BB.out.trans (BY3.mono (by have := BB.out.size; rw [HK.out] at this; exact this))
                  have SRC3 := Mx.hide (cell_one_new wr (.int .i64 (k : Int)) 3)
                  have hz3 : K ≤ (wr.alloc (.cells #[.int .i64 (k : Int)] 3)).heap.size := by have := Bb3.out.size; rw [HK.out] at this; exact this
                  clear BY3
                  go_wp2_with (at_builtin; refine wpList_append_own_at _ rfl _ _ 36 rfl K 3 i0 (.int .i64 0) 1 8 Try.underlying36 INF.out.1 INF.out.2.1 INF.out.2.2.1 INF.out.2.2.2 rfl (by decide) _ _ _ rfl Rb3.out.s13.r1 ⟨wr.heap.size, 0, none⟩ 1 1 [.int .i64 (k : Int)] rfl rfl ?a3 ?b3 ?c3 ?d3 ?e3 ?_)
                  case a3 => exact SRC3.out
                  case b3 => exact ic_one [(k : Int)]
                  case c3 => unfold maxLen; omega
                  case d3 => omega
                  case e3 => exact hz3
                  intro va3 wa3 ho hg _ hat
                  have Ra3 := Mx.hide ((Rb3.out.s13.app1 ho hg (by rw [World.size_alloc]; exact hat)).s13)
                  have Ba3 := Mx.hide (Rb3.out.s13.bel Bb3.out hz3 hg)
                  clear ho hg hat SRC3 hz3 Rb3 Bb3
                  obtain ⟨ob3, cb3, eb, -⟩ := Ra3.out.s13.at1
                  have eb2 : va3 = .slice ob3 (CC.length + 1) cb3 := by rw [eb, List.length_append]; rfl
                  clear eb
                  subst eb2
                  have E3 : Hid (R3 wa3 K (.slice o1 A.length c1) (.slice o2 B.length c2) (.slice ob3 (CC.length + 1) cb3) (ps (fun k => hsI m r ii (k : Int)) (k + 1)) (ps (fun k => hsI m r (k : Int) ii) (k + 1)) (ps (fun k => hsI m r (k : Int) (k : Int)) (k + 1))) := Ra3.out.congr (by rw [P1.out]; simp [h1]) (by rw [P2.out]; simp [h2]) (by rw [P3.out]; simp [h3])
                  have E4 := Ba3
                  clear h1 h2 h3
                  go_wp2_with fail
                  go_loopw [16, 18] (fun s4 s wq => ∃ jj : Nat, jj ≤ m ∧ s = .int .i64 (jj : Int) ∧ s4 = .int .i64 ((T + cnt (r k) jj : Nat) : Int) ∧ wq = wa3) (fun _ s _ => m - (intOf s).toNat)
                  case atStart => exact ⟨0, Nat.zero_le _, rfl, rfl, rfl⟩
                  case round =>
                    obtain ⟨jj, hjj, rfl, rfl, rfl⟩ := hrel
                    have hcn := cnt_le (r k) jj
                    by_cases hltj : jj < m
                    · have hltj' : (jj : Int) < (m : Int) := by omega
                      have HH := Mx.hide (RH.out _ E4.out (k : Int) (jj : Int))
                      have CS : Hid (cnt (r k) (jj + 1) = cnt (r k) jj + (if hsI m r (k : Int) (jj : Int) then 1 else 0)) := by rw [hsI_nat m r k jj hltk hltj]; rfl
                      generalize cnt (r k) jj = cj at *
                      obtain ⟨Tc, hTc⟩ : ∃ Tc, T + cj = Tc := ⟨_, rfl⟩
                      have hTb : Tc ≤ 50000 := by omega
                      have HT := Mx.hide hTc
                      rw [hTc]
                      clear hTc
                      cases hz : hsI m r (k : Int) (jj : Int)
                      · rw [hz] at HH CS
                        have CS2 : Hid (cnt (r k) (jj + 1) = cj) := by show _ = _; rw [CS.out]; simp
                        clear hz CS
                        go_wp2_with fail
                        refine HH.out.mono ?_
                        rintro e wz ⟨rfl, ez⟩
                        obtain rfl := ez.symm
                        go_wp2_with fail
                        go_roundw
                        case rel =>
                          first
                          | exact ⟨jj + 1, by omega, by go_num, by rw [CS2.out, HT.out], by first | rfl | trivial⟩
                          | ((repeat apply Exists.intro); exact ⟨⟨jj + 1, by omega, by go_num, by rw [CS2.out, HT.out], by first | rfl | trivial⟩, rfl⟩)
                        case measure => simp [intOf]; omega
                      · rw [hz] at HH CS
                        have CS2 : Hid (cnt (r k) (jj + 1) = cj + 1) := by show _ = _; rw [CS.out]; simp
                        clear hz CS
                        go_wp2_with fail
                        refine HH.out.mono ?_
                        rintro e wz ⟨rfl, ez⟩
                        obtain rfl := ez.symm
                        go_wp2_with fail
                        go_roundw
                        case rel =>
                          first
                          | exact ⟨jj + 1, by omega, by go_num, by rw [CS2.out, ← Nat.add_assoc, HT.out]; go_num, by first | rfl | trivial⟩
                          | ((repeat apply Exists.intro); exact ⟨⟨jj + 1, by omega, by go_num, by rw [CS2.out, ← Nat.add_assoc, HT.out]; go_num, by first | rfl | trivial⟩, rfl⟩)
                        case measure => simp [intOf]; omega
                    · have hltj' : ¬ ((jj : Int) < (m : Int)) := by omega
                      obtain rfl : m = jj := by omega
                      go_wp2_with fail
                      go_roundw
                      case rel =>
                        first
                        | exact ⟨k + 1, _, _, _, by omega, by go_num, rfl, rfl, rfl, by rw [TS.out], E3.out, E4.out⟩
                        | ((repeat apply Exists.intro); exact ⟨⟨k + 1, _, _, _, by omega, by go_num, rfl, rfl, rfl, by rw [TS.out], E3.out, E4.out⟩, rfl⟩)
                      case measure => simp [intOf]; omega
              · rw [h2] at HC2
                go_wp2_with fail
                refine HC2.out.mono ?_
                rintro e wz ⟨rfl, ez⟩
                obtain rfl := ez.symm
                clear HC2
                have BY2 := Ba.below_alloc wr (.cells #[.int .i64 (k : Int)] 3)
                have Rb2 := Mx.hide (R.out.below BY2)
                have Bb2 : Hid (Below K wS (wr.alloc (.cells #[.int .i64 (k : Int)] 3))) := BB.out.trans (BY2.mono (by have := BB.out.size; rw [HK.out] at this; exact this))
                have SRC2 := Mx.hide (cell_one_new wr (.int .i64 (k : Int)) 3)
                have hz2 : K ≤ (wr.alloc (.cells #[.int .i64 (k : Int)] 3)).heap.size := by have := Bb2.out.size; rw [HK.out] at this; exact this
                clear BY2
                go_wp2_with (at_builtin; refine wpList_append_own_at _ rfl _ _ 36 rfl K 3 i0 (.int .i64 0) 1 8 Try.underlying36 INF.out.1 INF.out.2.1 INF.out.2.2.1 INF.out.2.2.2 rfl (by decide) _ _ _ rfl Rb2.out.s12.r1 ⟨wr.heap.size, 0, none⟩ 1 1 [.int .i64 (k : Int)] rfl rfl ?a2 ?b2 ?c2 ?d2 ?e2 ?_)
                case a2 => exact SRC2.out
                case b2 => exact ic_one [(k : Int)]
                case c2 => unfold maxLen; omega
                case d2 => omega
                case e2 => exact hz2
                intro va2 wa2 ho hg _ hat
                have Ra2 := Mx.hide ((Rb2.out.s12.app1 ho hg (by rw [World.size_alloc]; exact hat)).s12)
                have Ba2 := Mx.hide (Rb2.out.s12.bel Bb2.out hz2 hg)
                clear ho hg hat SRC2 hz2 Rb2 Bb2
                obtain ⟨ob2, cb2, eb, -⟩ := Ra2.out.s12.at1
                have eb2 : va2 = .slice ob2 (B.length + 1) cb2 := by rw [eb, List.length_append]; rfl
                clear eb
                subst eb2
                have HC4 := Mx.hide (RH.out _ Ba2.out (k : Int) (k : Int))
                cases h3 : hsI m r (k : Int) (k : Int)
                · rw [h3] at HC4
                  go_wp2_with fail
                  refine HC4.out.mono ?_
                  rintro e wz ⟨rfl, ez⟩
                  obtain rfl := ez.symm
                  clear HC4
                  have E3 : Hid (R3 wa2 K (.slice o1 A.length c1) (.slice ob2 (B.length + 1) cb2) (.slice o3 CC.length c3) (ps (fun k => hsI m r ii (k : Int)) (k + 1)) (ps (fun k => hsI m r (k : Int) ii) (k + 1)) (ps (fun k => hsI m r (k : Int) (k : Int)) (k + 1))) := Ra2.out.congr (by rw [P1.out]; simp [h1]) (by rw [P2.out]; simp [h2]) (by rw [P3.out]; simp [h3])
                  have E4 := Ba2
                  clear h1 h2 h3
                  go_wp2_with fail
                  go_loopw [16, 18] (fun s4 s wq => ∃ jj : Nat, jj ≤ m ∧ s = .int .i64 (jj : Int) ∧ s4 = .int .i64 ((T + cnt (r k) jj : Nat) : Int) ∧ wq = wa2) (fun _ s _ => m - (intOf s).toNat)
                  case atStart => exact ⟨0, Nat.zero_le _, rfl, rfl, rfl⟩
                  case round =>
                    obtain ⟨jj, hjj, rfl, rfl, rfl⟩ := hrel
                    have hcn := cnt_le (r k) jj
                    by_cases hltj : jj < m
                    · have hltj' : (jj : Int) < (m : Int) := by omega
                      have HH := Mx.hide (RH.out _ E4.out (k : Int) (jj : Int))
                      have CS : Hid (cnt (r k) (jj + 1) = cnt (r k) jj + (if hsI m r (k : Int) (jj : Int) then 1 else 0)) := by rw [hsI_nat m r k jj hltk hltj]; rfl
                      generalize cnt (r k) jj = cj at *
                      obtain ⟨Tc, hTc⟩ : ∃ Tc, T + cj = Tc := ⟨_, rfl⟩
                      have hTb : Tc ≤ 50000 := by omega
                      have HT := Mx.hide hTc
                      rw [hTc]
                      clear hTc
                      cases hz : hsI m r (k : Int) (jj : Int)
                      · rw [hz] at HH CS
                        have CS2 : Hid (cnt (r k) (jj + 1) = cj) := by show _ = _; rw [CS.out]; simp
                        clear hz CS
                        go_wp2_with fail
                        refine HH.out.mono ?_
                        rintro e wz ⟨rfl, ez⟩
                        obtain rfl := ez.symm
                        go_wp2_with fail
                        go_roundw
                        case rel =>
                          first
                          | exact ⟨jj + 1, by omega, by go_num, by rw [CS2.out, HT.out], by first | rfl | trivial⟩
                          | ((repeat apply Exists.intro); exact ⟨⟨jj + 1, by omega, by go_num, by rw [CS2.out, HT.out], by first | rfl | trivial⟩, rfl⟩)
                        case measure => simp [intOf]; omega
                      · rw [hz] at HH CS
                        have CS2 : Hid (cnt (r k) (jj + 1) = cj + 1) := by show _ = _; rw [CS.out]; simp
                        clear hz CS
                        go_wp2_with fail
                        refine HH.out.mono ?_
                        rintro e wz ⟨rfl, ez⟩
                        obtain rfl := ez.symm
                        go_wp2_with fail
                        go_roundw
                        case rel =>
                          first
                          | exact ⟨jj + 1, by omega, by go_num, by rw [CS2.out, ← Nat.add_assoc, HT.out]; go_num, by first | rfl | trivial⟩
                          | ((repeat apply Exists.intro); exact ⟨⟨jj + 1, by omega, by go_num, by rw [CS2.out, ← Nat.add_assoc, HT.out]; go_num, by first | rfl | trivial⟩, rfl⟩)
                        case measure => simp [intOf]; omega
                    · have hltj' : ¬ ((jj : Int) < (m : Int)) := by omega
                      obtain rfl : m = jj := by omega
                      go_wp2_with fail
                      go_roundw
                      case rel =>
                        first
                        | exact ⟨k + 1, _, _, _, by omega, by go_num, rfl, rfl, rfl, by rw [TS.out], E3.out, E4.out⟩
                        | ((repeat apply Exists.intro); exact ⟨⟨k + 1, _, _, _, by omega, by go_num, rfl, rfl, rfl, by rw [TS.out], E3.out, E4.out⟩, rfl⟩)
                      case measure => simp [intOf]; omega
                · rw [h3] at HC4
                  go_wp2_with fail
                  refine HC4.out.mono ?_
                  rintro e wz ⟨rfl, ez⟩
                  obtain rfl := ez.symm
                  clear HC4
                  have BY4 := Ba.below_alloc wa2 (.cells #[.int .i64 (k : Int)] 3)
                  have Rb4 := Mx.hide (Ra2.out.below BY4)
                  have Bb4 : Hid (Below K wS (wa2.alloc (.cells #[.int .i64 (k : Int)] 3))) := Ba2.out.trans (BY4.mono (by have := Ba2.out.size; rw [HK.out] at this; exact this))
                  have SRC4 := Mx.hide (cell_one_new wa2 (.int .i64 (k : Int)) 3)
                  have hz4 : K ≤ (wa2.alloc (.cells #[.int .i64 (k : Int)] 3)).heap.size := by have := Bb4.out.size; rw [HK.out] at this; exact this
                  clear BY4
                  go_wp2_with (at_builtin; refine wpList_append_own_at _ rfl _ _ 36 rfl K 3 i0 (.int .i64 0) 1 8 Try.underlying36 INF.out.1 INF.out.2.1 INF.out.2.2.1 INF.out.2.2.2 rfl (by decide) _ _ _ rfl Rb4.out.s13.r1 ⟨wa2.heap.size, 0, none⟩ 1 1 [.int .i64 (k : Int)] rfl rfl ?a4 ?b4 ?c4 ?d4 ?e4 ?_)
                  case a4 => exact SRC4.out
                  case b4 => exact ic_one [(k : Int)]
                  case c4 => unfold maxLen; omega
                  case d4 => omega
                  case e4 => exact hz4
                  intro va4 wa4 ho hg _ hat
                  have Ra4 := Mx.hide ((Rb4.out.s13.app1 ho hg (by rw [World.size_alloc]; exact hat)).s13)
                  have Ba4 := Mx.hide (Rb4.out.s13.bel Bb4.out hz4 hg)
                  clear ho hg hat SRC4 hz4 Rb4 Bb4
                  obtain ⟨ob4, cb4, eb, -⟩ := Ra4.out.s13.at1
                  have eb2 : va4 = .slice ob4 (CC.length + 1) cb4 := by rw [eb, List.length_append]; rfl
                  clear eb
                  subst eb2
                  have E3 : Hid (R3 wa4 K (.slice o1 A.length c1) (.slice ob2 (B.length + 1) cb2) (.slice ob4 (CC.length + 1) cb4) (ps (fun k => hsI m r ii (k : Int)) (k + 1)) (ps (fun k => hsI m r (k : Int) ii) (k + 1)) (ps (fun k => hsI m r (k : Int) (k : Int)) (k + 1))) := Ra4.out.congr (by rw [P1.out]; simp [h1]) (by rw [P2.out]; simp [h2]) (by rw [P3.out]; simp [h3])
                  have E4 := Ba4
                  clear h1 h2 h3
                  go_wp2_with fail
                  go_loopw [16, 18] (fun s4 s wq => ∃ jj : Nat, jj ≤ m ∧ s = .int .i64 (jj : Int) ∧ s4 = .int .i64 ((T + cnt (r k) jj : Nat) : Int) ∧ wq = wa4) (fun _ s _ => m - (intOf s).toNat)
                  case atStart => exact ⟨0, Nat.zero_le _, rfl, rfl, rfl⟩
                  case round =>
                    obtain ⟨jj, hjj, rfl, rfl, rfl⟩ := hrel
                    have hcn := cnt_le (r k) jj
                    by_cases hltj : jj < m
                    · have hltj' : (jj : Int) < (m : Int) := by omega
                      have HH := Mx.hide (RH.out _ E4.out (k : Int) (jj : Int))
                      have CS : Hid (cnt (r k) (jj + 1) = cnt (r k) jj + (if hsI m r (k : Int) (jj : Int) then 1 else 0)) := by rw [hsI_nat m r k jj hltk hltj]; rfl
                      generalize cnt (r k) jj = cj at *
                      obtain ⟨Tc, hTc⟩ : ∃ Tc, T + cj = Tc := ⟨_, rfl⟩
                      have hTb : Tc ≤ 50000 := by omega
                      have HT := Mx.hide hTc
                      rw [hTc]
                      clear hTc
                      cases hz : hsI m r (k : Int) (jj : Int)
                      · rw [hz] at HH CS
                        have CS2 : Hid (cnt (r k) (jj + 1) = cj) := by show _ = _; rw [CS.out]; simp
                        clear hz CS
                        go_wp2_with fail
                        refine HH.out.mono ?_
                        rintro e wz ⟨rfl, ez⟩
                        obtain rfl := ez.symm
                        go_wp2_with fail
                        go_roundw
                        case rel =>
                          first
                          | exact ⟨jj + 1, by omega, by go_num, by rw [CS2.out, HT.out], by first | rfl | trivial⟩
                          | ((repeat apply Exists.intro); exact ⟨⟨jj + 1, by omega, by go_num, by rw [CS2.out, HT.out], by first | rfl | trivial⟩, rfl⟩)
                        case measure => simp [intOf]; omega
                      · rw [hz] at HH CS
                        have CS2 : Hid (cnt (r k) (jj + 1) = cj + 1) := by show _ = _; rw [CS.out]; simp
                        clear hz CS
                        go_wp2_with fail
                        refine HH.out.mono ?_
                        rintro e wz ⟨rfl, ez⟩
                        obtain rfl := ez.symm
                        go_wp2_with fail
                        go_roundw
                        case rel =>
                          first
                          | exact ⟨jj + 1, by omega, by go_num, by rw [CS2.out, ← Nat.add_assoc, HT.out]; go_num, by first | rfl | trivial⟩
                          | ((repeat apply Exists.intro); exact ⟨⟨jj + 1, by omega, by go_num, by rw [CS2.out, ← Nat.add_assoc, HT.out]; go_num, by first | rfl | trivial⟩, rfl⟩)
                        case measure => simp [intOf]; omega
                    · have hltj' : ¬ ((jj : Int) < (m : Int)) := by omega
                      obtain rfl : m = jj := by omega
                      go_wp2_with fail
                      go_roundw
                      case rel =>
                        first
                        | exact ⟨k + 1, _, _, _, by omega, by go_num, rfl, rfl, rfl, by rw [TS.out], E3.out, E4.out⟩
                        | ((repeat apply Exists.intro); exact ⟨⟨k + 1, _, _, _, by omega, by go_num, rfl, rfl, rfl, by rw [TS.out], E3.out, E4.out⟩, rfl⟩)
                      case measure => simp [intOf]; omega
            · rw [h1] at HC1
              go_wp2_with fail
              refine HC1.out.mono ?_
              rintro e wz ⟨rfl, ez⟩
              obtain rfl := ez.symm
              clear HC1
              have BY1 := Ba.below_alloc wr (.cells #[.int .i64 (k : Int)] 3)
              have Rb1 := Mx.hide (R.out.below BY1)
              have Bb1 : Hid (Below K wS (wr.alloc (.cells #[.int .i64 (k : Int)] 3))) := BB.out.trans (BY1.mono (by have := BB.out.size; rw [HK.out] at this; exact this))
              have SRC1 := Mx.hide (cell_one_new wr (.int .i64 (k : Int)) 3)
              have hz1 : K ≤ (wr.alloc (.cells #[.int .i64 (k : Int)] 3)).heap.size := by have := Bb1.out.size; rw [HK.out] at this; exact this
              clear BY1
              go_wp2_with (at_builtin; refine wpList_append_own_at _ rfl _ _ 36 rfl K 3 i0 (.int .i64 0) 1 8 Try.underlying36 INF.out.1 INF.out.2.1 INF.out.2.2.1 INF.out.2.2.2 rfl (by decide) _ _ _ rfl Rb1.out.r1 ⟨wr.heap.size, 0, none⟩ 1 1 [.int .i64 (k : Int)] rfl rfl ?a1 ?b1 ?c1 ?d1 ?e1 ?_)
              case a1 => exact SRC1.out
              case b1 => exact ic_one [(k : Int)]
              case c1 => unfold maxLen; omega
              case d1 => omega
              case e1 => exact hz1
              intro va1 wa1 ho hg _ hat
              have Ra1 := Mx.hide ((Rb1.out.app1 ho hg (by rw [World.size_alloc]; exact hat)))
              have Ba1 := Mx.hide (Rb1.out.bel Bb1.out hz1 hg)
              clear ho hg hat SRC1 hz1 Rb1 Bb1
              obtain ⟨ob1, cb1, eb, -⟩ := Ra1.out.at1
              have eb2 : va1 = .slice ob1 (A.length + 1) cb1 := by rw [eb, List.length_append]; rfl
              clear eb
              subst eb2
              have HC5 := Mx.hide (RH.out _ Ba1.out (k : Int) ii)
              cases h2 : hsI m r (k : Int) ii
              · rw [h2] at HC5
                go_wp2_with fail
                refine HC5.out.mono ?_
                rintro e wz ⟨rfl, ez⟩
                obtain rfl := ez.symm
                clear HC5
                have HC6 := Mx.hide (RH.out _ Ba1.out (k : Int) (k : Int))
                cases h3 : hsI m r (k : Int) (k : Int)
                · rw [h3] at HC6
                  go_wp2_with fail
                  refine HC6.out.mono ?_
                  rintro e wz ⟨rfl, ez⟩
                  obtain rfl := ez.symm
                  clear HC6
                  have E3 : Hid (R3 wa1 K (.slice ob1 (A.length + 1) cb1) (.slice o2 B.length c2) (.slice o3 CC.length c3) (ps (fun k => hsI m r ii (k : Int)) (k + 1)) (ps (fun k => hsI m r (k : Int) ii) (k + 1)) (ps (fun k => hsI m r (k : Int) (k : Int)) (k + 1))) := Ra1.out.congr (by rw [P1.out]; simp [h1]) (by rw [P2.out]; simp [h2]) (by rw [P3.out]; simp [h3])
                  have E4 := Ba1
                  clear h1 h2 h3
                  go_wp2_with fail
                  go_loopw [16, 18] (fun s4 s wq => ∃ jj : Nat, jj ≤ m ∧ s = .int .i64 (jj : Int) ∧ s4 = .int .i64 ((T + cnt (r k) jj : Nat) : Int) ∧ wq = wa1) (fun _ s _ => m - (intOf s).toNat)
                  case atStart => exact ⟨0, Nat.zero_le _, rfl, rfl, rfl⟩
                  case round =>
                    obtain ⟨jj, hjj, rfl, rfl, rfl⟩ := hrel
                    have hcn := cnt_le (r k) jj
                    by_cases hltj : jj < m
                    · have hltj' : (jj : Int) < (m : Int) := by omega
                      have HH := Mx.hide (RH.out _ E4.out (k : Int) (jj : Int))
                      have CS : Hid (cnt (r k) (jj + 1) = cnt (r k) jj + (if hsI m r (k : Int) (jj : Int) then 1 else 0)) := by rw [hsI_nat m r k jj hltk hltj]; rfl
                      generalize cnt (r k) jj = cj at *
                      obtain ⟨Tc, hTc⟩ : ∃ Tc, T + cj = Tc := ⟨_, rfl⟩
                      have hTb : Tc ≤ 50000 := by omega
                      have HT := Mx.hide hTc
                      rw [hTc]
                      clear hTc
                      cases hz : hsI m r (k : Int) (jj : Int)
                      · rw [hz] at HH CS
                        have CS2 : Hid (cnt (r k) (jj + 1) = cj) := by show _ = _; rw [CS.out]; simp
                        clear hz CS
                        go_wp2_with fail
                        refine HH.out.mono ?_
                        rintro e wz ⟨rfl, ez⟩
                        obtain rfl := ez.symm
                        go_wp2_with fail
                        go_roundw
                        case rel =>
                          first
                          | exact ⟨jj + 1, by omega, by go_num, by rw [CS2.out, HT.out], by first | rfl | trivial⟩
                          | ((repeat apply Exists.intro); exact ⟨⟨jj + 1, by omega, by go_num, by rw [CS2.out, HT.out], by first | rfl | trivial⟩, rfl⟩)
                        case measure => simp [intOf]; omega
                      · rw [hz] at HH CS
                        have CS2 : Hid (cnt (r k) (jj + 1) = cj + 1) := by show _ = _; rw [CS.out]; simp
                        clear hz CS
                        go_wp2_with fail
                        refine HH.out.mono ?_
                        rintro e wz ⟨rfl, ez⟩
                        obtain rfl := ez.symm
                        go_wp2_with fail
                        go_roundw
                        case rel =>
                          first
                          | exact ⟨jj + 1, by omega, by go_num, by rw [CS2.out, ← Nat.add_assoc, HT.out]; go_num, by first | rfl | trivial⟩
                          | ((repeat apply Exists.intro); exact ⟨⟨jj + 1, by omega, by go_num, by rw [CS2.out, ← Nat.add_assoc, HT.out]; go_num, by first | rfl | trivial⟩, rfl⟩)
                        case measure => simp [intOf]; omega
                    · have hltj' : ¬ ((jj : Int) < (m : Int)) := by omega
                      obtain rfl : m = jj := by omega
                      go_wp2_with fail
                      go_roundw
                      case rel =>
                        first
                        | exact ⟨k + 1, _, _, _, by omega, by go_num, rfl, rfl, rfl, by rw [TS.out], E3.out, E4.out⟩
                        | ((repeat apply Exists.intro); exact ⟨⟨k + 1, _, _, _, by omega, by go_num, rfl, rfl, rfl, by rw [TS.out], E3.out, E4.out⟩, rfl⟩)
                      case measure => simp [intOf]; omega
                · rw [h3] at HC6
                  go_wp2_with fail
                  refine HC6.out.mono ?_
                  rintro e wz ⟨rfl, ez⟩
                  obtain rfl := ez.symm
                  clear HC6
                  have BY6 := Ba.below_alloc wa1 (.cells #[.int .i64 (k : Int)] 3)
                  have Rb6 := Mx.hide (Ra1.out.below BY6)
                  have Bb6 : Hid (Below K wS (wa1.alloc (.cells #[.int .i64 (k : Int)] 3))) := Ba1.out.trans (BY6.mono (by have := Ba1.out.size; rw [HK.out] at this; exact this))
                  have SRC6 := Mx.hide (cell_one_new wa1 (.int .i64 (k : Int)) 3)
                  have hz6 : K ≤ (wa1.alloc (.cells #[.int .i64 (k : Int)] 3)).heap.size := by have := Bb6.out.size; rw [HK.out] at this; exact this
                  clear BY6
                  go_wp2_with (at_builtin; refine wpList_append_own_at _ rfl _ _ 36 rfl K 3 i0 (.int .i64 0) 1 8 Try.underlying36 INF.out.1 INF.out.2.1 INF.out.2.2.1 INF.out.2.2.2 rfl (by decide) _ _ _ rfl Rb6.out.s13.r1 ⟨wa1.heap.size, 0, none⟩ 1 1 [.int .i64 (k : Int)] rfl rfl ?a6 ?b6 ?c6 ?d6 ?e6 ?_)
                  case a6 => exact SRC6.out
                  case b6 => exact ic_one [(k : Int)]
                  case c6 => unfold maxLen; omega
                  case d6 => omega
                  case e6 => exact hz6
                  intro va6 wa6 ho hg _ hat
                  have Ra6 := Mx.hide ((Rb6.out.s13.app1 ho hg (by rw [World.size_alloc]; exact hat)).s13)
                  have Ba6 := Mx.hide (Rb6.out.s13.bel Bb6.out hz6 hg)
                  clear ho hg hat SRC6 hz6 Rb6 Bb6
                  obtain ⟨ob6, cb6, eb, -⟩ := Ra6.out.s13.at1
                  have eb2 : va6 = .slice ob6 (CC.length + 1) cb6 := by rw [eb, List.length_append]; rfl
                  clear eb
                  subst eb2
                  have E3 : Hid (R3 wa6 K (.slice ob1 (A.length + 1) cb1) (.slice o2 B.length c2) (.slice ob6 (CC.length + 1) cb6) (ps (fun k => hsI m r ii (k : Int)) (k + 1)) (ps (fun k => hsI m r (k : Int) ii) (k + 1)) (ps (fun k => hsI m r (k : Int) (k : Int)) (k + 1))) := Ra6.out.congr (by rw [P1.out]; simp [h1]) (by rw [P2.out]; simp [h2]) (by rw [P3.out]; simp [h3])
                  have E4 := Ba6
                  clear h1 h2 h3
                  go_wp2_with fail
                  go_loopw [16, 18] (fun s4 s wq => ∃ jj : Nat, jj ≤ m ∧ s = .int .i64 (jj : Int) ∧ s4 = .int .i64 ((T + cnt (r k) jj : Nat) : Int) ∧ wq = wa6) (fun _ s _ => m - (intOf s).toNat)
                  case atStart => exact ⟨0, Nat.zero_le _, rfl, rfl, rfl⟩
                  case round =>
                    obtain ⟨jj, hjj, rfl, rfl, rfl⟩ := hrel
                    have hcn := cnt_le (r k) jj
                    by_cases hltj : jj < m
                    · have hltj' : (jj : Int) < (m : Int) := by omega
                      have HH := Mx.hide (RH.out _ E4.out (k : Int) (jj : Int))
                      have CS : Hid (cnt (r k) (jj + 1) = cnt (r k) jj + (if hsI m r (k : Int) (jj : Int) then 1 else 0)) := by rw [hsI_nat m r k jj hltk hltj]; rfl
                      generalize cnt (r k) jj = cj at *
                      obtain ⟨Tc, hTc⟩ : ∃ Tc, T + cj = Tc := ⟨_, rfl⟩
                      have hTb : Tc ≤ 50000 := by omega
                      have HT := Mx.hide hTc
                      rw [hTc]
                      clear hTc
                      cases hz : hsI m r (k : Int) (jj : Int)
                      · rw [hz] at HH CS
                        have CS2 : Hid (cnt (r k) (jj + 1) = cj) := by show _ = _; rw [CS.out]; simp
                        clear hz CS
                        go_wp2_with fail
                        refine HH.out.mono ?_
                        rintro e wz ⟨rfl, ez⟩
                        obtain rfl := ez.symm
                        go_wp2_with fail
                        go_roundw
                        case rel =>
                          first
                          | exact ⟨jj + 1, by omega, by go_num, by rw [CS2.out, HT.out], by first | rfl | trivial⟩
                          | ((repeat apply Exists.intro); exact ⟨⟨jj + 1, by omega, by go_num, by rw [CS2.out, HT.out], by first | rfl | trivial⟩, rfl⟩)
                        case measure => simp [intOf]; omega
                      · rw [hz] at HH CS
                        have CS2 : Hid (cnt (r k) (jj + 1) = cj + 1) := by show _ = _; rw [CS.out]; simp
                        clear hz CS
                        go_wp2_with fail
                        refine HH.out.mono ?_
                        rintro e wz ⟨rfl, ez⟩
                        obtain rfl := ez.symm
                        go_wp2_with fail
                        go_roundw
                        case rel =>
                          first
                          | exact ⟨jj + 1, by omega, by go_num, by rw [CS2.out, ← Nat.add_assoc, HT.out]; go_num, by first | rfl | trivial⟩
                          | ((repeat apply Exists.intro); exact ⟨⟨jj + 1, by omega, by go_num, by rw [CS2.out, ← Nat.add_assoc, HT.out]; go_num, by first | rfl | trivial⟩, rfl⟩)
                        case measure => simp [intOf]; omega
                    · have hltj' : ¬ ((jj : Int) < (m : Int)) := by omega
                      obtain rfl : m = jj := by omega
                      go_wp2_with fail
                      go_roundw
                      case rel =>
                        first
                        | exact ⟨k + 1, _, _, _, by omega, by go_num, rfl, rfl, rfl, by rw [TS.out], E3.out, E4.out⟩
                        | ((repeat apply Exists.intro); exact ⟨⟨k + 1, _, _, _, by omega, by go_num, rfl, rfl, rfl, by rw [TS.out], E3.out, E4.out⟩, rfl⟩)
                      case measure => simp [intOf]; omega
              · rw [h2] at HC5
                go_wp2_with fail
                refine HC5.out.mono ?_
                rintro e wz ⟨rfl, ez⟩
                obtain rfl := ez.symm
                clear HC5
                have BY5 := Ba.below_alloc wa1 (.cells #[.int .i64 (k : Int)] 3)
                have Rb5 := Mx.hide (Ra1.out.below BY5)
                have Bb5 : Hid (Below K wS (wa1.alloc (.cells #[.int .i64 (k : Int)] 3))) := Ba1.out.trans (BY5.mono (by have := Ba1.out.size; rw [HK.out] at this; exact this))
                have SRC5 := Mx.hide (cell_one_new wa1 (.int .i64 (k : Int)) 3)
                have hz5 : K ≤ (wa1.alloc (.cells #[.int .i64 (k : Int)] 3)).heap.size := by have := Bb5.out.size; rw [HK.out] at this; exact this
                clear BY5
                go_wp2_with (at_builtin; refine wpList_append_own_at _ rfl _ _ 36 rfl K 3 i0 (.int .i64 0) 1 8 Try.underlying36 INF.out.1 INF.out.2.1 INF.out.2.2.1 INF.out.2.2.2 rfl (by decide) _ _ _ rfl Rb5.out.s12.r1 ⟨wa1.heap.size, 0, none⟩ 1 1 [.int .i64 (k : Int)] rfl rfl ?a5 ?b5 ?c5 ?d5 ?e5 ?_)
                case a5 => exact SRC5.out
                case b5 => exact ic_one [(k : Int)]
                case c5 => unfold maxLen; omega
                case d5 => omega
                case e5 => exact hz5
                intro va5 wa5 ho hg _ hat
                have Ra5 := Mx.hide ((Rb5.out.s12.app1 ho hg (by rw [World.size_alloc]; exact hat)).s12)
                have Ba5 := Mx.hide (Rb5.out.s12.bel Bb5.out hz5 hg)
                clear ho hg hat SRC5 hz5 Rb5 Bb5
                obtain ⟨ob5, cb5, eb, -⟩ := Ra5.out.s12.at1
                have eb2 : va5 = .slice ob5 (B.length + 1) cb5 := by rw [eb, List.length_append]; rfl
                clear eb
                subst eb2
                have HC7 := Mx.hide (RH.out _ Ba5.out (k : Int) (k : Int))
                cases h3 : hsI m r (k : Int) (k : Int)
                · rw [h3] at HC7
                  go_wp2_with fail
                  refine HC7.out.mono ?_
                  rintro e wz ⟨rfl, ez⟩
                  obtain rfl := ez.symm
                  clear HC7
                  have E3 : Hid (R3 wa5 K (.slice ob1 (A.length + 1) cb1) (.slice ob5 (B.length + 1) cb5) (.slice o3 CC.length c3) (ps (fun k => hsI m r ii (k : Int)) (k + 1)) (ps (fun k => hsI m r (k : Int) ii) (k + 1)) (ps (fun k => hsI m r (k : Int) (k : Int)) (k + 1))) := Ra5.out.congr (by rw [P1.out]; simp [h1]) (by rw [P2.out]; simp [h2]) (by rw [P3.out]; simp [h3])
                  have E4 := Ba5
                  clear h1 h2 h3
                  go_wp2_with fail
                  go_loopw [16, 18] (fun s4 s wq => ∃ jj : Nat, jj ≤ m ∧ s = .int .i64 (jj : Int) ∧ s4 = .int .i64 ((T + cnt (r k) jj : Nat) : Int) ∧ wq = wa5) (fun _ s _ => m - (intOf s).toNat)
                  case atStart => exact ⟨0, Nat.zero_le _, rfl, rfl, rfl⟩
                  case round =>
                    obtain ⟨jj, hjj, rfl, rfl, rfl⟩ := hrel
                    have hcn := cnt_le (r k) jj
                    by_cases hltj : jj < m
                    · have hltj' : (jj : Int) < (m : Int) := by omega
                      have HH := Mx.hide (RH.out _ E4.out (k : Int) (jj : Int))
                      have CS : Hid (cnt (r k) (jj + 1) = cnt (r k) jj + (if hsI m r (k : Int) (jj : Int) then 1 else 0)) := by rw [hsI_nat m r k jj hltk hltj]; rfl
                      generalize cnt (r k) jj = cj at *
                      obtain ⟨Tc, hTc⟩ : ∃ Tc, T + cj = Tc := ⟨_, rfl⟩
                      have hTb : Tc ≤ 50000 := by omega
                      have HT := Mx.hide hTc
                      rw [hTc]
                      clear hTc
                      cases hz : hsI m r (k : Int) (jj : Int)
                      · rw [hz] at HH CS
                        have CS2 : Hid (cnt (r k) (jj + 1) = cj) := by show _ = _; rw [CS.out]; simp
                        clear hz CS
                        go_wp2_with fail
                        refine HH.out.mono ?_
                        rintro e wz ⟨rfl, ez⟩
                        obtain rfl := ez.symm
                        go_wp2_with fail
                        go_roundw
                        case rel =>
                          first
                          | exact ⟨jj + 1, by omega, by go_num, by rw [CS2.out, HT.out], by first | rfl | trivial⟩
                          | ((repeat apply Exists.intro); exact ⟨⟨jj + 1, by omega, by go_num, by rw [CS2.out, HT.out], by first | rfl | trivial⟩, rfl⟩)
                        case measure => simp [intOf]; omega
                      · rw [hz] at HH CS
                        have CS2 : Hid (cnt (r k) (jj + 1) = cj + 1) := by show _ = _; rw [CS.out]; simp
                        clear hz CS
                        go_wp2_with fail
                        refine HH.out.mono ?_
                        rintro e wz ⟨rfl, ez⟩
                        obtain rfl := ez.symm
                        go_wp2_with fail
                        go_roundw
                        case rel =>
                          first
                          | exact ⟨jj + 1, by omega, by go_num, by rw [CS2.out, ← Nat.add_assoc, HT.out]; go_num, by first | rfl | trivial⟩
                          | ((repeat apply Exists.intro); exact ⟨⟨jj + 1, by omega, by go_num, by rw [CS2.out, ← Nat.add_assoc, HT.out]; go_num, by first | rfl | trivial⟩, rfl⟩)
                        case measure => simp [intOf]; omega
                    · have hltj' : ¬ ((jj : Int) < (m : Int)) := by omega
                      obtain rfl : m = jj := by omega
                      go_wp2_with fail
                      go_roundw
                      case rel =>
                        first
                        | exact ⟨k + 1, _, _, _, by omega, by go_num, rfl, rfl, rfl, by rw [TS.out], E3.out, E4.out⟩
                        | ((repeat apply Exists.intro); exact ⟨⟨k + 1, _, _, _, by omega, by go_num, rfl, rfl, rfl, by rw [TS.out], E3.out, E4.out⟩, rfl⟩)
                      case measure => simp [intOf]; omega
                · rw [h3] at HC7
                  go_wp2_with fail
                  refine HC7.out.mono ?_
                  rintro e wz ⟨rfl, ez⟩
                  obtain rfl := ez.symm
                  clear HC7
                  have BY7 := Ba.below_alloc wa5 (.cells #[.int .i64 (k : Int)] 3)
                  have Rb7 := Mx.hide (Ra5.out.below BY7)
                  have Bb7 : Hid (Below K wS (wa5.alloc (.cells #[.int .i64 (k : Int)] 3))) := Ba5.out.trans (BY7.mono (by have := Ba5.out.size; rw [HK.out] at this; exact this))
                  have SRC7 := Mx.hide (cell_one_new wa5 (.int .i64 (k : Int)) 3)
                  have hz7 : K ≤ (wa5.alloc (.cells #[.int .i64 (k : Int)] 3)).heap.size := by have := Bb7.out.size; rw [HK.out] at this; exact this
                  clear BY7
                  go_wp2_with (at_builtin; refine wpList_append_own_at _ rfl _ _ 36 rfl K 3 i0 (.int .i64 0) 1 8 Try.underlying36 INF.out.1 INF.out.2.1 INF.out.2.2.1 INF.out.2.2.2 rfl (by decide) _ _ _ rfl Rb7.out.s13.r1 ⟨wa5.heap.size, 0, none⟩ 1 1 [.int .i64 (k : Int)] rfl rfl ?a7 ?b7 ?c7 ?d7 ?e7 ?_)
                  case a7 => exact SRC7.out
                  case b7 => exact ic_one [(k : Int)]
                  case c7 => unfold maxLen; omega
                  case d7 => omega
                  case e7 => exact hz7
                  intro va7 wa7 ho hg _ hat
                  have Ra7 := Mx.hide ((Rb7.out.s13.app1 ho hg (by rw [World.size_alloc]; exact hat)).s13)
                  have Ba7 := Mx.hide (Rb7.out.s13.bel Bb7.out hz7 hg)
                  clear ho hg hat SRC7 hz7 Rb7 Bb7
                  obtain ⟨ob7, cb7, eb, -⟩ := Ra7.out.s13.at1
                  have eb2 : va7 = .slice ob7 (CC.length + 1) cb7 := by rw [eb, List.length_append]; rfl
                  clear eb
                  subst eb2
                  have E3 : Hid (R3 wa7 K (.slice ob1 (A.length + 1) cb1) (.slice ob5 (B.length + 1) cb5) (.slice ob7 (CC.length + 1) cb7) (ps (fun k => hsI m r ii (k : Int)) (k + 1)) (ps (fun k => hsI m r (k : Int) ii) (k + 1)) (ps (fun k => hsI m r (k : Int) (k : Int)) (k + 1))) := Ra7.out.congr (by rw [P1.out]; simp [h1]) (by rw [P2.out]; simp [h2]) (by rw [P3.out]; simp [h3])
                  have E4 := Ba7
                  clear h1 h2 h3
                  go_wp2_with fail
                  go_loopw [16, 18] (fun s4 s wq => ∃ jj : Nat, jj ≤ m ∧ s = .int .i64 (jj : Int) ∧ s4 = .int .i64 ((T + cnt (r k) jj : Nat) : Int) ∧ wq = wa7) (fun _ s _ => m - (intOf s).toNat)
                  case atStart => exact ⟨0, Nat.zero_le _, rfl, rfl, rfl⟩
                  case round =>
                    obtain ⟨jj, hjj, rfl, rfl, rfl⟩ := hrel
                    have hcn := cnt_le (r k) jj
                    by_cases hltj : jj < m
                    · have hltj' : (jj : Int) < (m : Int) := by omega
                      have HH := Mx.hide (RH.out _ E4.out (k : Int) (jj : Int))
                      have CS : Hid (cnt (r k) (jj + 1) = cnt (r k) jj + (if hsI m r (k : Int) (jj : Int) then 1 else 0)) := by rw [hsI_nat m r k jj hltk hltj]; rfl
                      generalize cnt (r k) jj = cj at *
                      obtain ⟨Tc, hTc⟩ : ∃ Tc, T + cj = Tc := ⟨_, rfl⟩
                      have hTb : Tc ≤ 50000 := by omega
                      have HT := Mx.hide hTc
                      rw [hTc]
                      clear hTc
                      cases hz : hsI m r (k : Int) (jj : Int)
                      · rw [hz] at HH CS
                        have CS2 : Hid (cnt (r k) (jj + 1) = cj) := by show _ = _; rw [CS.out]; simp
                        clear hz CS
                        go_wp2_with fail
                        refine HH.out.mono ?_
                        rintro e wz ⟨rfl, ez⟩
                        obtain rfl := ez.symm
                        go_wp2_with fail
                        go_roundw
                        case rel =>
                          first
                          | exact ⟨jj + 1, by omega, by go_num, by rw [CS2.out, HT.out], by first | rfl | trivial⟩
                          | ((repeat apply Exists.intro); exact ⟨⟨jj + 1, by omega, by go_num, by rw [CS2.out, HT.out], by first | rfl | trivial⟩, rfl⟩)
                        case measure => simp [intOf]; omega
                      · rw [hz] at HH CS
                        have CS2 : Hid (cnt (r k) (jj + 1) = cj + 1) := by show _ = _; rw [CS.out]; simp
                        clear hz CS
                        go_wp2_with fail
                        refine HH.out.mono ?_
                        rintro e wz ⟨rfl, ez⟩
                        obtain rfl := ez.symm
                        go_wp2_with fail
                        go_roundw
                        case rel =>
                          first
                          | exact ⟨jj + 1, by omega, by go_num, by rw [CS2.out, ← Nat.add_assoc, HT.out]; go_num, by first | rfl | trivial⟩
                          | ((repeat apply Exists.intro); exact ⟨⟨jj + 1, by omega, by go_num, by rw [CS2.out, ← Nat.add_assoc, HT.out]; go_num, by first | rfl | trivial⟩, rfl⟩)
                        case measure => simp [intOf]; omega
                    · have hltj' : ¬ ((jj : Int) < (m : Int)) := by omega
                      obtain rfl : m = jj := by omega
                      go_wp2_with fail
                      go_roundw
                      case rel =>
                        first
                        | exact ⟨k + 1, _, _, _, by omega, by go_num, rfl, rfl, rfl, by rw [TS.out], E3.out, E4.out⟩
                        | ((repeat apply Exists.intro); exact ⟨⟨k + 1, _, _, _, by omega, by go_num, rfl, rfl, rfl, by rw [TS.out], E3.out, E4.out⟩, rfl⟩)
                      case measure => simp [intOf]; omega
          · have hltk' : ¬ ((k : Int) < (m : Int)) := by omega
            obtain rfl : m = k := by omega
            have m1 := Z1.out _ BB.out
            have RO := Mx.hide (row_any m1.po ii)
            have hl := m1.cell_lt
            have MX := Mx.hide (fun (u : World) (b : Below wr.heap.size wr u) => m1.below b)
            clear m1
            generalize ps (fun k => hsI m r ii (k : Int)) m = A at *
            generalize hQ2 : ps (fun k => hsI m r (k : Int) ii) m = B at *
            generalize hQ3 : ps (fun k => hsI m r (k : Int) (k : Int)) m = CC at *
            have HQ2 := Mx.hide hQ2
            have HQ3 := Mx.hide hQ3
            generalize hQ4 : total r m m = T at *
            have HQ4 := Mx.hide hQ4
            clear hQ2 hQ3 hQ4
            have hdT : ((T : Int) == (T : Int)) = true := by simp
            have hdm : ((m : Int) == (m : Int)) = true := by simp
            go_wp2_with fail
            refine RO.out.mono ?_
            rintro e y1 ⟨oa1, ca1, rfl, a1, b1⟩
            have R1 := Mx.hide (R.out.below b1)
            have Q1 := Mx.hide b1
            obtain ⟨oo, cc, ee, aa⟩ := R1.out.at1
            cases ee
            have I1 := Mx.hide (Ba.ints_is _ _ A A A.length A.length ca1 c1 true (by simp) rfl rfl y1 a1 aa (by omega) (by omega))
            clear a1 b1 aa
            go_wp2_with fail
            refine I1.out.mono ?_
            rintro e y2 ⟨rfl, b2⟩
            have Q2 := Mx.hide (Ba.btr Q1.out b2)
            have CO := Mx.hide (col_any (MX.out _ Q2.out).po ii)
            rw [HQ2.out] at CO
            clear b2 I1 RO
            go_wp2_with fail
            refine CO.out.mono ?_
            rintro e y3 ⟨oa2, ca2, rfl, a3, b3⟩
            have Q3 := Mx.hide (Ba.btr Q2.out b3)
            obtain ⟨oo, cc, ee, aa⟩ := (R.out.below Q3.out).s12.at1
            cases ee
            have I2 := Mx.hide (Ba.ints_is _ _ B B B.length B.length ca2 c2 true (by simp) rfl rfl y3 a3 aa (by omega) (by omega))
            clear a3 b3 aa CO
            go_wp2_with fail
            refine I2.out.mono ?_
            rintro e y4 ⟨rfl, b4⟩
            have Q4 := Mx.hide (Ba.btr Q3.out b4)
            have LO := Mx.hide (loo_any (MX.out _ Q4.out).po)
            rw [HQ3.out] at LO
            clear b4 I2
            go_wp2_with fail
            refine LO.out.mono ?_
            rintro e y5 ⟨oa3, ca3, rfl, a5, b5⟩
            have Q5 := Mx.hide (Ba.btr Q4.out b5)
            obtain ⟨oo, cc, ee, aa⟩ := (R.out.below Q5.out).s13.at1
            cases ee
            have I3 := Mx.hide (Ba.ints_is _ _ CC CC CC.length CC.length ca3 c3 true (by simp) rfl rfl y5 a5 aa (by omega) (by omega))
            clear a5 b5 aa LO
            go_wp2_with fail
            refine I3.out.mono ?_
            rintro e y6 ⟨rfl, b6⟩
            have Q6 := Mx.hide (Ba.btr Q5.out b6)
            have CN := Mx.hide (count_any (MX.out _ Q6.out))
            rw [HQ4.out] at CN
            have SZ := Mx.hide (size_any (MX.out _ Q6.out))
            clear b6 I3
            go_wp2_with fail
            refine CN.out.mono ?_
            rintro e y7 ⟨rfl, rfl⟩
            go_wp2_with fail
            refine SZ.out.mono ?_
            rintro e y7 ⟨rfl, rfl⟩
            go_wp2_with fail
            refine (three_any _).mono ?_
            rintro e y8 ⟨rfl, b8⟩
            have Q8 := Mx.hide (Ba.btr Q6.out b8)
            have E8 : Hid (Below N w y8) := BN.out _ (BB.out.trans (Q8.out.mono hsw))
            clear b8
            go_wp2_with fail
            go_ret
            exact ⟨rfl, E8.out⟩

/-! ### the row -/
set_option maxRecDepth 100000 in
theorem lifted (os : Os) (started : os.Started) (H : Type) (enc : TypeId × Value → H) :
    ReturnsInHanded {} Try.checked os 3 .any (Rows.matrixSetsSpec.pre6 enc Try.prog Try.f3 Rows.matrixSetsRow.domain false) (Rows.matrixSetsSpec.post enc Try.prog Try.f3 false true false false) := by
  refine returnsInHanded_of_change (C := Try.checked) own started (by kernel_rfl) Try.func3
    (ChangeSpec.witness6 (enc := enc) (C := Try.checked) false ⟨#[], #[.int .i64 0, .slice none 0 0, .int .i64 0], []⟩ 8 (by kernel_rfl) (by kernel_rfl) (by kernel_rfl) (by kernel_rfl)) ?_
  intro W base args ds gs before hval0 hW hcnd _
  have hval : ∀ (j : Nat) t v, Try.f3.params[j]? = some t → args[j]? = some v → Value.okWide Try.prog W .any base t v := hval0
  have hW' := hW
  obtain ⟨p, q, hA0, hV, rfl, hfz, hnd⟩ := hW
  have hA : DataW.TrodAll enc Try.prog W 0 (fun _ => true) true Try.f3.params.toList args.toList ds p := hA0
  rw [Try.params3] at hA hval
  obtain ⟨v0, vs0, d0, ds0, p0, q0, hargs, rfl, rfl, h0, r0⟩ := trodAll_cons hA
  obtain ⟨v1, vs1, d1, ds1, p1, q1, rfl, rfl, rfl, h1, r1⟩ := trodAll_cons r0
  obtain ⟨v2, vs2, d2, ds2, p2, q2, rfl, rfl, rfl, h2, r2⟩ := trodAll_cons r1
  obtain ⟨rfl, rfl, rfl⟩ := trodAll_nil r2
  obtain rfl : args = #[v0, v1, v2] := by cases args; simp_all
  obtain ⟨rfl, rfl⟩ := trodVars_none hV
  obtain ⟨a0, rfl, rfl, rfl, w0⟩ := open_int Try.underlying3 (hval 0 3 v0 rfl rfl) h0
  obtain ⟨oa1, n1, c1, rfl⟩ := okWide_slice Try.underlying22 (hval 1 22 v1 rfl rfl)
  have k1 := h1
  have lt1 : ∀ x ∈ p1, x.block < W.heap.size := by obtain ⟨m, hm⟩ := k1; exact DataW.trod_lt m _ _ _ hm
  obtain ⟨l1, rfl, A1, C1, M1⟩ := h1.elim fun _ hf => pairs_open hf
  obtain ⟨a2, rfl, rfl, rfl, w2⟩ := open_int Try.underlying3 (hval 2 3 v2 rfl rfl) h2
  clear hA0 hval0
  refine (core (w := W) a0 oa1 l1 c1 A1 (Nat.le_trans C1 M1) a2).mono fun e W' ⟨he, bel⟩ => ?_
  subst he
  exact ⟨_, rfl, _, _, _, [], _, [], hW', trodAll_mk1 (shut_bool Try.underlying4 _), (trodAll_cons_mk (shut_int Try.underlying3 w0) (trodAll_cons_mk (Below.trod laidOut (by kernel_rfl) (of_decide_eq_true (by kernel_rfl)) k1 bel lt1) (trodAll_cons_mk (shut_int Try.underlying3 w2) trodAll_mk0))), rfl, bel.frame _, fun h => by cases h⟩

theorem over : Rows.matrixSetsRow.holds Try.pinned (OpenSpec.ofChange Rows.matrixSetsSpec) :=
  OpenClaim.holds_of_wide 3 Try.f3 rfl rfl rfl rfl rfl rfl rfl ⟨rfl, rfl, rfl, rfl, rfl⟩ rfl rfl rfl rfl rfl (by kernel_rfl) Try.func3 (by kernel_rfl)
    (of_decide_eq_true (by kernel_rfl)) (by unfold Func.isWrapper; first | (rw [if_pos (by decide +kernel)]; kernel_rfl) | (rw [if_neg (by decide +kernel)]; exact ⟨rfl, rfl⟩))
    (fun os started H enc _ => lifted os started H enc)

/-- the statement -/
theorem proved : Rows.MatrixSetsSaid := over
#print axioms proved
end Go.Proofs.Ytdfjcmlafhannaa.matrixSets
