/- For every script, each step of a run in the loom is what the document's own answer does: who does what next, what then happens, in which state all are: under no condition. -/
import Derived.Test.YtddchcekljndmaaGreatZjLs14
import Derived.Test.YtddchcekljndmaaGreatLxf
import Derived.Test.YtddchcekljndmaaGreatLxg
import Derived.ShutString
import Derived.ChangeOld
import Derived.Below
namespace Go.Proofs.YtddchcekljndmaaGreat.loomSteps
open Go.ChangeShapes Go.WideShapes Go.ChangeAt Go.RowKit
open Go.ChangeMaps (open_string shut_string)
open Lo Ba Sh
open List renaming getElem_toArray → zz1, getElem_cons_zero → zz2, getElem_cons_succ → zz3, setIfInBounds_toArray → zz4, set_cons_zero → zz5, set_cons_succ → zz6

theorem own : ownKnob Tryz.prog.godebug = none := by kernel_rfl
theorem laidOut : laidOutB Tryz.prog = true := by kernel_rfl

set_option maxRecDepth 100000 in
set_option maxHeartbeats 12800000 in
theorem core {w : World} (T M : Int) (ps : List (List De.OpD)) (pl dr : List Int) (pa la da : Option Addr) (pc lc dc : Nat) (hS : Sh.SAt w ⟨T, M, ps, pl, dr⟩ pa la da) (hH : Sh.Held ps) :
    Calls Tryz.prog 4 #[.agg #[.int .i64 T, .int .i64 M, .slice pa ps.length pc, .slice la pl.length lc, .slice da dr.length dc]] w fun r w' => r = .returned (.bool true) ∧ Below w.heap.size w w' := by
  have LG := hide (large13 T M ps pl dr pa la da pc lc dc (w.alloc (.cells #[.int .i64 T, .int .i64 M, .slice pa ps.length pc, .slice la pl.length lc, .slice da dr.length dc] 25)) (hS.below (below_alloc _ _)) hH)
  have HS := hide hS
  clear hS hH
  go_enter Tryz.func4, Tryz.ntmps4
  go_wp2_with fail
  refine LG.out.mono ?_
  rintro r w1 ⟨⟨b, rfl, hb⟩, b1⟩
  have E1 := hide (heap_below (heap_new w (.cells #[.int .i64 T, .int .i64 M, .slice pa ps.length pc, .slice la pl.length lc, .slice da dr.length dc] 25)) b1)
  have B1 := hide (btr (below_alloc w (.cells #[.int .i64 T, .int .i64 M, .slice pa ps.length pc, .slice la pl.length lc, .slice da dr.length dc] 25)) b1)
  have x0 := cell_of E1.out 0
  have x1 := cell_of E1.out 1
  have x2 := cell_of E1.out 2
  have x3 := cell_of E1.out 3
  have x4 := cell_of E1.out 4
  simp at x0 x1 x2 x3 x4
  clear b1 LG
  cases b
  case true =>
    clear hb
    go_wp2_with fail
    refine (hands_any _).mono ?_
    rintro r w2 ⟨rfl, b2⟩
    have B2 := hide (btr B1.out b2)
    clear b2
    go_wp2_with fail
    go_ret
    exact ⟨rfl, B2.out⟩
  case false =>
    clear hb
    by_cases hs : Sh.schk ⟨T, M, ps, pl, dr⟩ = 0
    case neg =>
      have NE := hide (new_err T M ps pl dr pa la da pc lc dc w1 (HS.out.below B1.out) _ rfl hs); have NR := hide (fun u (q : Sh.SAt u ⟨T, M, ps, pl, dr⟩ pa la da) => Rlo.rlnew_err T M ps pl dr pa la da pc lc dc u q _ rfl hs); generalize Sh.schk ⟨T, M, ps, pl, dr⟩ = z at NE NR hs
      have hz : (z != z) = false := by simp
      clear hs; go_wp2_with fail
      refine NE.out.mono ?_; rintro r w2 ⟨rfl, b2⟩; have B2 := hide (btr B1.out b2); have E2 := hide (heap_below E1.out b2); have x0 := cell_of E2.out 0; have x1 := cell_of E2.out 1; have x2 := cell_of E2.out 2; have x3 := cell_of E2.out 3; have x4 := cell_of E2.out 4; simp at x0 x1 x2 x3 x4; have NR2 := hide (NR.out w2 (HS.out.below B2.out)); clear b2 NE NR; go_wp2_with fail
      refine NR2.out.mono ?_; rintro r w3 ⟨rfl, b3⟩; have B3 := hide (btr B2.out b3); clear b3 NR2 x0 x1 x2 x3 x4; go_wp2_with fail
      refine (hands_any _).mono ?_; rintro r w4 ⟨rfl, b4⟩; have B4 := hide (btr B3.out b4); clear b4; go_wp2_with fail
      go_ret
      exact ⟨rfl, B4.out⟩
    case pos =>
      have NE := hide (new_yes T M ps pl dr pa la da pc lc dc w1 (HS.out.below B1.out) hs); have NR := hide (fun u (q : Below w1.heap.size w1 u) => Rlo.rlnew_yes T M ps pl dr pa la da pc lc dc w1.heap.size w1 u (HS.out.below B1.out) q (Nat.le_refl _) q.size hs); have hpl2 : pl.length ≤ 200 := (schk_ok hs).2.2.1; generalize hsc : (⟨T, M, ps, pl, dr⟩ : Sh.Sc) = sc at *
      have HPL : Hid (sc.pl.length = pl.length) := by show _ = _; rw [← hsc]
      have HSC := hide hs; clear hsc hs; go_wp2_with fail
      refine NE.out.mono ?_; rintro r w2 ⟨L1, c1, rfl, h2, n2, b2⟩; have B2 := hide (btr B1.out b2); have E2 := hide (heap_below E1.out b2); have x0 := cell_of E2.out 0; have x1 := cell_of E2.out 1; have x2 := cell_of E2.out 2; have x3 := cell_of E2.out 3; have x4 := cell_of E2.out 4; simp at x0 x1 x2 x3 x4; have NR2 := hide (NR.out w2 b2); have H2 := hide h2; have N2 := hide n2; have BB2 := hide b2; clear b2 NE NR h2 n2; go_wp2_with fail
      refine NR2.out.mono ?_; rintro r w3 ⟨L2, c2, rfl, h3, n3, -, b3⟩; obtain ⟨d1, j3⟩ := Rlo.JL.new BB2.out H2.out N2.out b3 h3 n3; have J3 := hide j3; clear b3 h3 n3 j3 NR2 x0 x1 x2 x3 x4 H2 N2 BB2 E2 B2; go_wp2_with fail
      go_loopw [7] (fun iv wr => ∃ (n : Nat) (c1 c2 : Nat → Nat), n ≤ pl.length + 1 ∧ iv = .int .i64 n ∧ Rlo.JL w1 wr L1 L2 (stepsF n (newS sc)) (stepsF n (newS sc)) c1 c2) (fun iv _ => pl.length + 1 - (intOf iv).toNat)
      case atStart => exact ⟨0, d1, c2, Nat.zero_le _, rfl, J3.out⟩
      case round =>
        clear J3; obtain ⟨n, c1, c2, hn, rfl, hj⟩ := hrel; have x3 : wr.cell? ⟨w.heap.size, 3, none⟩ = some (.slice la pl.length lc) := Sh.cellB (cell_of E1.out 3) hj.bl; have J := hide hj; clear hj
        by_cases hlt : n ≤ pl.length
        · have hlt' : (n : Int) ≤ (pl.length : Int) := by omega
          obtain ⟨k0, hk0, hinv, -⟩ := Inv.steps HSC.out n; have SS := hide (steps_succ n (newS sc)); have WBB := hide (Rlo.WB.steps HSC.out n); have INV := hide hinv; clear hinv hk0; generalize stepsF n (newS sc) = s at *; have hn2 := INV.out.n200 HSC.out; have hkn := kn_le hn2; have OKK := hide (INV.out.ok HSC.out)
          have HLEN : Hid (s.p.length ≤ 1000 ∧ s.d.length ≤ 1000) := by
            have h1 := INV.out.dl
            show _ ∧ _
            rw [INV.out.p, List.length_drop, HPL.out]
            omega
          by_cases hv : verd s = 0
          · have hpl0 : 0 < s.p.length := by
              rcases Nat.eq_zero_or_pos s.p.length with z | z
              · exfalso
                unfold verd at hv; rw [if_pos z] at hv
                split at hv
                · omega
                · split at hv <;> omega
              · exact z
            have SE : Hid (stepsF (n + 1) (newS sc) = stepF s) := SS; have VP := hide (fun u c (q : LW u c L1 s) => verdict_any L1 c s _ u q OKK.out.cb); have VR := hide (fun u c (q : Rlo.RW u c L2 w1.heap.size s) => Rlo.rverdict_any L2 w1.heap.size c s u q); rw [hv] at VP VR; have SP := hide (fun u c (q : LW u c L1 s) => step_anyF L1 c sc k0 s u q HSC.out INV.out hv); have SRR := hide (fun u c (q : Rlo.RW u c L2 w1.heap.size s) => Rlo.rstep_any L2 w1.heap.size c sc k0 s u q HSC.out INV.out WBB.out hv)
            have TN : Hid ((stepF s).tr.length ≤ 100000) := by
              have i2 := INV.out.step HSC.out hv; have h1 := kn_le (i2.n200 HSC.out); have h2 := i2.b.bw.tn
              show _ ≤ _
              omega
            have HNC : Hid ((stepF s).cr.length ≤ 1000) := by
              have i2 := INV.out.step HSC.out hv; have h1 := i2.n200 HSC.out; have h2 := i2.b.cl
              show _ ≤ _
              omega
            by_cases ht : nth s.p 0 = -1
            · have NX := hide (next_comp L1 c1 s _ wr J.out.p OKK.out.cb hv HLEN.out ht)
              have WHO := hide (fun u c (q : Rlo.RW u c L2 w1.heap.size s) => Rlo.rwho_comp L2 w1.heap.size c s u q hpl0 ht)
              have JE : Hid (∃ j, 0 < j ∧ (stepF s).tr.length = s.tr.length + j) := by
                refine ⟨1, by omega, ?_⟩; unfold stepF; rw [if_neg (by omega), if_pos ht]
                simp [tellS]
              clear SS WBB INV OKK HLEN hv ht hpl0; go_wp2_with fail
              refine NX.out.mono ?_; rintro r w2 ⟨rfl, b2⟩; obtain ⟨d1, d2, j2, -, -, -⟩ := J.out.below (btr b2 (below_alloc w2 (.cells #[.int .i64 0, .int .i64 0, .int .i64 0, .slice none 0 0, .bool false] 44))); have J2 := hide j2; have E2 := hide (heap_new w2 (.cells #[.int .i64 0, .int .i64 0, .int .i64 0, .slice none 0 0, .bool false] 44)); have VR2 := hide (VR.out _ d2 j2.r); clear j2 NX J; go_wp2_with fail
              refine VR2.out.mono ?_; rintro r w3 ⟨rfl, b3⟩; obtain ⟨e1, e2, j3, -, -, -⟩ := J2.out.below b3; have J3 := hide j3; have B3 := hide b3; have VP3 := hide (VP.out _ e1 j3.p); clear b3 j3 VR2 J2; go_wp2_with fail
              refine VP3.out.mono ?_; rintro r w4 ⟨rfl, b4⟩; obtain ⟨f1, f2, j4, -, -, -⟩ := J3.out.below b4; have J4 := hide j4; have B4 := hide (btr B3.out b4); have VR4 := hide (VR.out _ f2 j4.r); clear b4 j4 VP3 J3 VP B3; go_wp2_with fail
              refine VR4.out.mono ?_; rintro r w5 ⟨rfl, b5⟩; obtain ⟨g1, g2, j5, -, -, -⟩ := J4.out.below b5; have J5 := hide j5; have B5 := hide (btr B4.out b5); have WH5 := hide (WHO.out _ g2 j5.r); clear b5 j5 VR4 J4 VR WHO B4; go_wp2_with fail
              refine WH5.out.mono ?_; rintro r w6 ⟨rfl, b6⟩; obtain ⟨k1, k2, j6, -, -, -⟩ := J5.out.below b6; have J6 := hide j6; have B6 := hide (btr B5.out b6); clear b6 WH5 J5 B5; have E6 := hide (heap_below E2.out B6.out)
              have PLZ : Hid (Calls Tryz.prog 16 #[.agg #[.int .i64 0, .int .i64 0, .int .i64 0, .slice none 0 0, .bool false], .agg #[.int .i64 0, .int .i64 0, .int .i64 0, .slice none 0 0, .bool false]] w6.drew fun r w' => r = .returned (.bool true) ∧ Below w6.drew.heap.size w6.drew w') := by
                refine (Dz.plain_any ⟨0, 0, 0, [], false⟩ ⟨0, 0, 0, [], false⟩ none none 0 0 w6.drew (fun k x hk => by simp at hk) (fun k x hk => by simp at hk) (by simp) (by simp)).mono ?_; rintro r wx ⟨⟨x, rfl, hx⟩, bx⟩; have : x = true := hx.2 rfl; subst this
                exact ⟨rfl, bx⟩
              have o0 : w6.drew.cell? ⟨w2.heap.size, 0, none⟩ = some (.int .i64 0) := cell_of E6.out 0; have o1 : w6.drew.cell? ⟨w2.heap.size, 1, none⟩ = some (.int .i64 0) := cell_of E6.out 1; have o2 : w6.drew.cell? ⟨w2.heap.size, 2, none⟩ = some (.int .i64 0) := cell_of E6.out 2; have o3 : w6.drew.cell? ⟨w2.heap.size, 3, none⟩ = some (.slice none 0 0) := cell_of E6.out 3; have o4 : w6.drew.cell? ⟨w2.heap.size, 4, none⟩ = some (.bool false) := cell_of E6.out 4; clear E2 B6 j6; go_wp2_with fail
              refine wp_region_held_drew (S := fun w' => w'.cell? ⟨w2.heap.size, 0, none⟩ = some (.int .i64 0) ∧ w'.cell? ⟨w2.heap.size, 1, none⟩ = some (.int .i64 0) ∧ w'.cell? ⟨w2.heap.size, 2, none⟩ = some (.int .i64 0) ∧ w'.cell? ⟨w2.heap.size, 3, none⟩ = some (.slice none 0 0) ∧ w'.cell? ⟨w2.heap.size, 4, none⟩ = some (.bool false)) (by kernel_rfl) ?_ (fun hHeld => ?_)
              · exact ⟨o0, o1, o2, o3, o4⟩
              refine wpAnyH_take (i := 0) (v := ?_) rfl (by kernel_rfl) (by kernel_rfl) (by kernel_rfl) (fun _ _ _ h => h) (Or.inl ⟨by rfl, ?_⟩) (by assumption) ?_; rotate_left
              · intro w0 hSw; (try dsimp only at hSw); go_simp <;> with_reducible rfl
              try simp only [Act.put, zz1, zz2, zz4, zz5, zz6]
              refine wpAnyH_take (i := 1) (v := ?_) rfl (by kernel_rfl) (by kernel_rfl) (by kernel_rfl) (fun _ _ _ h => h) (Or.inl ⟨by rfl, ?_⟩) (by assumption) ?_; rotate_left
              · intro w0 hSw; (try dsimp only at hSw); go_simp <;> with_reducible rfl
              try simp only [Act.put, zz1, zz2, zz3, zz4, zz5, zz6]
              refine wpAnyH_take (i := 2) (v := ?_) rfl (by kernel_rfl) (by kernel_rfl) (by kernel_rfl) (fun _ _ _ h => h) (Or.inl ⟨by rfl, ?_⟩) (by assumption) ?_; rotate_left
              · intro w0 hSw; (try dsimp only at hSw); go_simp <;> with_reducible rfl
              try simp only [Act.put, zz1, zz2, zz3, zz4, zz5, zz6]
              refine wpAnyH_take (i := 3) (v := ?_) rfl (by kernel_rfl) (by kernel_rfl) (by kernel_rfl) (fun _ _ _ h => h) (Or.inl ⟨by rfl, ?_⟩) (by assumption) ?_; rotate_left
              · intro w0 hSw; (try dsimp only at hSw); go_simp <;> with_reducible rfl
              try simp only [Act.put, zz1, zz2, zz3, zz4, zz5, zz6]
              refine wpAnyH_take (i := 4) (v := ?_) rfl (by kernel_rfl) (by kernel_rfl) (by kernel_rfl) (fun _ _ _ h => h) (Or.inl ⟨by rfl, ?_⟩) (by assumption) ?_; rotate_left
              · intro w0 hSw; (try dsimp only at hSw); go_simp <;> with_reducible rfl
              try simp only [Act.put, zz1, zz2, zz3, zz4, zz5, zz6]
              refine wpAnyH_take (i := 5) (v := ?_) rfl (by kernel_rfl) (by kernel_rfl) (by kernel_rfl) (fun _ _ _ h => h) (Or.inl ⟨by rfl, ?_⟩) (by assumption) ?_; rotate_left
              · intro w0 hSw; (try dsimp only at hSw); go_simp <;> with_reducible rfl
              try simp only [Act.put, zz1, zz2, zz3, zz4, zz5, zz6]
              refine wpAnyH_take (i := 6) (v := ?_) rfl (by kernel_rfl) (by kernel_rfl) (by kernel_rfl) (fun _ _ _ h => h) (Or.inl ⟨by rfl, ?_⟩) (by assumption) ?_; rotate_left
              · intro w0 hSw; (try dsimp only at hSw); go_simp <;> with_reducible rfl
              try simp only [Act.put, zz1, zz2, zz3, zz4, zz5, zz6]
              refine wpAnyH_take (i := 7) rfl (by kernel_rfl) (by kernel_rfl) (by kernel_rfl) (fun _ _ _ h => h) (Or.inr ⟨by rfl, rfl⟩) (by assumption) ?_
              try simp only [Act.put, zz1, zz2, zz3, zz4, zz5, zz6]
              refine wpAnyH_take (i := 8) rfl (by kernel_rfl) (by kernel_rfl) (by kernel_rfl) (fun _ _ _ h => h) (Or.inr ⟨by rfl, rfl⟩) (by assumption) ?_
              try simp only [Act.put, zz1, zz2, zz3, zz4, zz5, zz6]
              refine wpAnyH_take (i := 9) rfl (by kernel_rfl) (by kernel_rfl) (by kernel_rfl) (fun _ _ _ h => h) (Or.inr ⟨by rfl, rfl⟩) (by assumption) ?_
              try simp only [Act.put, zz1, zz2, zz3, zz4, zz5, zz6]
              refine wpAnyH_take (i := 10) rfl (by kernel_rfl) (by kernel_rfl) (by kernel_rfl) (fun _ _ _ h => h) (Or.inr ⟨by rfl, rfl⟩) (by assumption) ?_
              try simp only [Act.put, zz1, zz2, zz3, zz4, zz5, zz6]
              refine wpAnyH_take (i := 11) rfl (by kernel_rfl) (by kernel_rfl) (by kernel_rfl) (fun _ _ _ h => h) (Or.inr ⟨by rfl, rfl⟩) (by assumption) ?_
              try simp only [Act.put, zz1, zz2, zz3, zz4, zz5, zz6]
              refine wpAnyH_take (i := 12) rfl (by kernel_rfl) (by kernel_rfl) (by kernel_rfl) (fun _ _ _ h => h) (Or.inr ⟨by rfl, rfl⟩) (by assumption) ?_
              try simp only [Act.put, zz1, zz2, zz3, zz4, zz5, zz6]
              refine wpAnyH_take (i := 13) (v := ?_) rfl (by kernel_rfl) (by kernel_rfl) (by kernel_rfl) (fun _ _ _ h => h) (Or.inl ⟨by rfl, ?_⟩) (by assumption) ?_; rotate_left
              · intro w0 hSw; (try dsimp only at hSw); go_simp <;> with_reducible rfl
              try simp only [Act.put, zz1, zz2, zz3, zz4, zz5, zz6]
              refine wpAnyH_take (i := 14) (v := ?_) rfl (by kernel_rfl) (by kernel_rfl) (by kernel_rfl) (fun _ _ _ h => h) (Or.inl ⟨by rfl, ?_⟩) (by assumption) ?_; rotate_left
              · intro w0 hSw; (try dsimp only at hSw); go_simp <;> with_reducible rfl
              try simp only [Act.put, zz1, zz2, zz3, zz4, zz5, zz6]
              refine wpAnyH_take (i := 15) (v := ?_) rfl (by kernel_rfl) (by kernel_rfl) (by kernel_rfl) (fun _ _ _ h => h) (Or.inl ⟨by rfl, ?_⟩) (by assumption) ?_; rotate_left
              · intro w0 hSw; (try dsimp only at hSw); go_simp <;> with_reducible rfl
              try simp only [Act.put, zz1, zz2, zz3, zz4, zz5, zz6]
              refine wpAnyH_take (i := 16) (v := ?_) rfl (by kernel_rfl) (by kernel_rfl) (by kernel_rfl) (fun _ _ _ h => h) (Or.inl ⟨by rfl, ?_⟩) (by assumption) ?_; rotate_left
              · intro w0 hSw; (try dsimp only at hSw); go_simp <;> with_reducible rfl
              try simp only [Act.put, zz1, zz2, zz3, zz4, zz5, zz6]
              refine wpAnyH_take (i := 17) (v := ?_) rfl (by kernel_rfl) (by kernel_rfl) (by kernel_rfl) (fun _ _ _ h => h) (Or.inl ⟨by rfl, ?_⟩) (by assumption) ?_; rotate_left
              · intro w0 hSw; (try dsimp only at hSw); go_simp <;> with_reducible rfl
              try simp only [Act.put, zz1, zz2, zz3, zz4, zz5, zz6]
              refine wpAnyH_take (i := 18) (v := ?_) rfl (by kernel_rfl) (by kernel_rfl) (by kernel_rfl) (fun _ _ _ h => h) (Or.inl ⟨by rfl, ?_⟩) (by assumption) ?_; rotate_left
              · intro w0 hSw; (try dsimp only at hSw); go_simp <;> with_reducible rfl
              try simp only [Act.put, zz1, zz2, zz3, zz4, zz5, zz6]
              refine wpAnyH_take (i := 19) (v := ?_) rfl (by kernel_rfl) (by kernel_rfl) (by kernel_rfl) (fun _ _ _ h => h) (Or.inl ⟨by rfl, ?_⟩) (by assumption) ?_; rotate_left
              · intro w0 hSw; (try dsimp only at hSw); go_simp <;> with_reducible rfl
              try simp only [Act.put, zz1, zz2, zz3, zz4, zz5, zz6]
              refine wpAnyH_take (i := 20) (v := ?_) rfl (by kernel_rfl) (by kernel_rfl) (by kernel_rfl) (fun _ _ _ h => h) (Or.inl ⟨by rfl, ?_⟩) (by assumption) ?_; rotate_left
              · intro w0 hSw; (try dsimp only at hSw); go_simp <;> with_reducible rfl
              try simp only [Act.put, zz1, zz2, zz3, zz4, zz5, zz6]
              refine wpAnyH_ready (rs := [21]) (by kernel_rfl) (by simp) ?_; refine AllReadyH.cons rfl (fun K hK => ?_) AllReadyH.nil
              go_simp
              refine PLZ.out.mono ?_; rintro r w8 ⟨rfl, b8⟩
              (try go_wp2_with fail)
              refine hK.out _ _ ?_ (fun hHeld => ?_)
              · exact ⟨Sh.cellB o0 b8, Sh.cellB o1 b8, Sh.cellB o2 b8, Sh.cellB o3 b8, Sh.cellB o4 b8⟩
              clear hK K
              try simp only [Act.put, zz1, zz2, zz3, zz4, zz5, zz6]
              refine wpAnyH_take (i := 22) (v := ?_) rfl (by kernel_rfl) (by kernel_rfl) (by kernel_rfl) (fun _ _ _ h => h) (Or.inl ⟨by rfl, ?_⟩) (by assumption) ?_; rotate_left
              · intro w0 hSw; (try dsimp only at hSw); go_simp <;> with_reducible rfl
              try simp only [Act.put, zz1, zz2, zz3, zz4, zz5, zz6]
              refine wpAnyH_take (i := 23) (v := ?_) rfl (by kernel_rfl) (by kernel_rfl) (by kernel_rfl) (fun _ _ _ h => h) (Or.inl ⟨by rfl, ?_⟩) (by assumption) ?_; rotate_left
              · intro w0 hSw; (try dsimp only at hSw); go_simp <;> with_reducible rfl
              try simp only [Act.put, zz1, zz2, zz3, zz4, zz5, zz6]
              refine wpAnyH_take (i := 24) (v := ?_) rfl (by kernel_rfl) (by kernel_rfl) (by kernel_rfl) (fun _ _ _ h => h) (Or.inl ⟨by rfl, ?_⟩) (by assumption) ?_; rotate_left
              · intro w0 hSw; (try dsimp only at hSw); go_simp <;> with_reducible rfl
              try simp only [Act.put, zz1, zz2, zz3, zz4, zz5, zz6]
              refine wpAnyH_done (by kernel_rfl) ?_ _; obtain ⟨q1, q2, j8, -, -, -⟩ := J6.out.below (btr (bdrew1 w6) b8); clear b8 PLZ J6 E6 o0 o1 o2 o3 o4; have J8 := hide j8; have SP8 := hide (SP.out _ q1 j8.p); obtain ⟨C5, B5, FB5, hd5, pa5, pc5, oa5, oc5, bs5, Fs5, cs5, ta5, tc5, h5⟩ := j8.r; have y16 := cell_of h5.hp 16
              simp [Rlo.rcs] at y16
              clear j8 h5 SP; go_wp2_with fail
              refine SP8.out.mono ?_; rintro r w7x ⟨ob, d, rfl, ⟨es7, fr7⟩, c7, h7, t7⟩; obtain ⟨c8, j7, n7⟩ := J8.out.prog h7 t7; have J7 := hide j7; have ES7 := hide es7
              have FR7 : Hid (∀ a, ob = some a → 6 ≤ c8 a.block) := fun a e => by rw [n7 _ (fr7 a e)]; omega
              have SR7 := hide (SRR.out _ c8 j7.r); clear es7 fr7 h7 t7 j7 n7 SP8 J8 SRR y16; go_wp2_with fail
              refine SR7.out.mono ?_; rintro r w9 ⟨rfl, c9, h9, t9⟩; obtain ⟨d9, j9⟩ := J7.out.ref h9 t9; have J9 := hide j9; have ES9 := hide (Rlo.es_tq ES7.out FR7.out t9); clear h9 t9 SR7 J7 ES7 FR7; obtain ⟨C, B, FB, hd, pa9, pc9, oa9, oc9, bs9, Fs9, cs9, ta, tc, h9⟩ := j9.r; have y16 : w9.cell? ⟨L2, 16, none⟩ = some (.slice ta (stepF s).tr.length tc) := cell_of h9.hp 16; have OT := hide h9.tr; obtain ⟨ma, mc, y6, yb⟩ := h9.crewRow; obtain ⟨s', HSS⟩ : ∃ s', stepF s = s' := ⟨_, rfl⟩; rw [HSS] at J9 SE ES9 y16 OT yb JE TN HNC; obtain ⟨nc, NCC⟩ : ∃ nc, Hid (s'.cr.length = nc) := ⟨_, rfl⟩; rw [NCC.out] at yb
              have hnc : nc ≤ 1000 := by have := HNC.out; rw [NCC.out] at this; exact this
              have LEN := hide (fun u (q : Below w9.drew.heap.size w9.drew u) => by
                obtain ⟨x1, x2, jx, -⟩ := J9.out.below (btr (bdrew1 w9) q); have := len_any L1 x1 s' u jx.p; rw [NCC.out] at this
                exact this)
              obtain ⟨j, hj0, hjl⟩ := JE.out; have htn := TN.out; rw [hjl] at htn
              rcases OT.out.2 with ⟨e0, e1⟩ | ⟨gb, cap, cur, e0, -, -, hcap, -⟩
              · exfalso
                rw [hjl] at e1
                omega
              cases e0
              have hne : ¬ (tc = s.tr.length) := by omega
              have TES := hide (tail_es (n := s.tr.length) OT.out)
              have hdl : (s'.tr.drop s.tr.length).length = j := by rw [List.length_drop, hjl]; omega
              obtain ⟨oz, dz, SL, TE2⟩ : ∃ oz dz, Hid (∀ u, (Instr.sliceAt 28 (.slice (some ⟨gb, 0, none⟩) s'.tr.length tc) (some (.int .i64 (s.tr.length : Int))) none none).run Tryz.prog u = .ok (.slice oz j dz) u) ∧ Hid (EsAt w9 oz (s'.tr.drop s.tr.length)) := by
                refine ⟨some ⟨gb, s.tr.length * 8, none⟩, tc - s.tr.length, fun u => ?_, TES.out⟩
                have := Rlo.slice_at u (some ⟨gb, 0, none⟩) s'.tr.length tc s.tr.length (by omega); rw [if_neg hne, show s'.tr.length - s.tr.length = j by omega] at this
                have ea : (⟨gb, 0, none⟩ : Addr).add (s.tr.length * 8) = ⟨gb, s.tr.length * 8, none⟩ := by
                  unfold Addr.add
                  split
                  · rename_i h0
                    rw [h0]
                  · simp
                simp only [Option.map_some, ea] at this
                exact this
              have EVS := hide (events_same ob oz (s'.tr.drop s.tr.length) d dz w9.drew (ES9.out.below (bdrew1 _)) (TE2.out.below (bdrew1 _)) (by omega)); rw [hdl] at EVS
              have hsub : s'.tr.length - s.tr.length = j := by omega
              rw [HSS, hsub]; clear OT TES TE2 ES9 h9 j9 hne hdl hsub hcap HSS hjl hj0; have y16d : w9.drew.cell? ⟨L2, 16, none⟩ = some (.slice (some ⟨gb, 0, none⟩) s'.tr.length tc) := y16; have y6d : w9.drew.cell? ⟨L2, 6, none⟩ = some (.pointer (some ⟨B, 0, none⟩)) := y6; have ybd : w9.drew.cell? ⟨B, 0, none⟩ = some (.slice ma nc mc) := yb
              have ncc : ((nc : Int) != (nc : Int)) = false := by simp
              go_wp2_with fail
              refine wp_region_held_drew (S := fun w' => w'.cell? ⟨L2, 16, none⟩ = some (.slice (some ⟨gb, 0, none⟩) s'.tr.length tc) ∧ w'.cell? ⟨L2, 6, none⟩ = some (.pointer (some ⟨B, 0, none⟩)) ∧ w'.cell? ⟨B, 0, none⟩ = some (.slice ma nc mc)) (by kernel_rfl) ?_ (fun hHeld => ?_)
              · exact ⟨y16d, y6d, ybd⟩
              refine wpAnyH_take (i := 0) (v := ?_) rfl (by kernel_rfl) (by kernel_rfl) (by kernel_rfl) (fun _ _ _ h => h) (Or.inl ⟨by rfl, ?_⟩) (by assumption) ?_; rotate_left
              · intro w0 hSw; (try dsimp only at hSw); go_simp <;> with_reducible rfl
              try simp only [Act.put, zz1, zz2, zz4, zz5, zz6]
              refine wpAnyH_take (i := 1) (v := ?_) rfl (by kernel_rfl) (by kernel_rfl) (by kernel_rfl) (fun _ _ _ h => h) (Or.inl ⟨by rfl, ?_⟩) (by assumption) ?_; rotate_left
              · intro w0 hSw; (try dsimp only at hSw); go_simp <;> with_reducible rfl
              try simp only [Act.put, zz1, zz2, zz3, zz4, zz5, zz6]
              refine wpAnyH_take (i := 2) (v := ?_) rfl (by kernel_rfl) (by kernel_rfl) (by kernel_rfl) (fun _ _ _ h => h) (Or.inl ⟨by rfl, ?_⟩) (by assumption) ?_; rotate_left
              · intro w0 hSw; (try dsimp only at hSw); go_simp <;> with_reducible rfl
              try simp only [Act.put, zz1, zz2, zz3, zz4, zz5, zz6]
              refine wpAnyH_take (i := 3) (v := ?_) rfl (by kernel_rfl) (by kernel_rfl) (by kernel_rfl) (fun _ _ _ h => h) (Or.inl ⟨by rfl, ?_⟩) (by assumption) ?_; rotate_left
              · intro w0 hSw; (try dsimp only at hSw); go_simp <;> with_reducible rfl
              try simp only [Act.put, zz1, zz2, zz3, zz4, zz5, zz6]
              refine wpAnyH_take (i := 4) (v := ?_) rfl (by kernel_rfl) (by kernel_rfl) (by kernel_rfl) (fun _ _ _ h => h) (Or.inl ⟨by rfl, ?_⟩) (by assumption) ?_; rotate_left
              · intro w0 hSw; (try dsimp only at hSw); go_simp <;> with_reducible rfl
              try simp only [Act.put, zz1, zz2, zz3, zz4, zz5, zz6]
              refine wpAnyH_take (i := 5) (v := ?_) rfl (by kernel_rfl) (by kernel_rfl) (by kernel_rfl) (fun _ _ _ h => h) (Or.inl ⟨by rfl, ?_⟩) (by assumption) ?_; rotate_left
              · intro w0 hSw; (try dsimp only at hSw); go_simp <;> with_reducible rfl
              try simp only [Act.put, zz1, zz2, zz3, zz4, zz5, zz6]
              refine wpAnyH_take (i := 6) (v := .slice oz j dz) rfl (by kernel_rfl) (by kernel_rfl) (by kernel_rfl) (fun _ _ _ h => h) (Or.inl ⟨by rfl, ?_⟩) (by assumption) ?_
              · intro w0 hSw; refine Eq.trans (b := Sem.run Tryz.prog (Instr.sliceAt 28 (.slice (some ⟨gb, 0, none⟩) s'.tr.length tc) (some (.int .i64 (s.tr.length : Int))) none none >>= fun x => pure (Next.value x)) w0) (by kernel_rfl) ?_; rw [Sem.run_bind, SL.out w0]; rfl
              try simp only [Act.put, zz1, zz2, zz3, zz4, zz5, zz6]
              refine wpAnyH_ready (rs := [7]) (by kernel_rfl) (by simp) ?_; refine AllReadyH.cons rfl (fun K hK => ?_) AllReadyH.nil
              go_simp
              refine EVS.out.mono ?_; rintro r wa ⟨rfl, ba⟩; have y16a := Sh.cellB y16d ba; have y6a := Sh.cellB y6d ba; have yba := Sh.cellB ybd ba
              (try go_wp2_with fail)
              refine hK.out _ _ ?_ (fun hHeld => ?_)
              · exact ⟨y16a, y6a, yba⟩
              clear hK K
              try simp only [Act.put, zz1, zz2, zz3, zz4, zz5, zz6]
              refine wpAnyH_take (i := 8) (v := ?_) rfl (by kernel_rfl) (by kernel_rfl) (by kernel_rfl) (fun _ _ _ h => h) (Or.inl ⟨by rfl, ?_⟩) (by assumption) ?_; rotate_left
              · intro w0 hSw; (try dsimp only at hSw); go_simp <;> with_reducible rfl
              try simp only [Act.put, zz1, zz2, zz3, zz4, zz5, zz6]
              refine wpAnyH_take (i := 9) (v := ?_) rfl (by kernel_rfl) (by kernel_rfl) (by kernel_rfl) (fun _ _ _ h => h) (Or.inl ⟨by rfl, ?_⟩) (by assumption) ?_; rotate_left
              · intro w0 hSw; (try dsimp only at hSw); go_simp <;> with_reducible rfl
              try simp only [Act.put, zz1, zz2, zz3, zz4, zz5, zz6]
              refine wpAnyH_take (i := 10) (v := ?_) rfl (by kernel_rfl) (by kernel_rfl) (by kernel_rfl) (fun _ _ _ h => h) (Or.inl ⟨by rfl, ?_⟩) (by assumption) ?_; rotate_left
              · intro w0 hSw; (try dsimp only at hSw); go_simp <;> with_reducible rfl
              try simp only [Act.put, zz1, zz2, zz3, zz4, zz5, zz6]
              refine wpAnyH_take (i := 12) (v := ?_) rfl (by kernel_rfl) (by kernel_rfl) (by kernel_rfl) (fun _ _ _ h => h) (Or.inl ⟨by rfl, ?_⟩) (by assumption) ?_; rotate_left
              · intro w0 hSw; (try dsimp only at hSw); go_simp <;> with_reducible rfl
              try simp only [Act.put, zz1, zz2, zz3, zz4, zz5, zz6]
              refine wpAnyH_take (i := 13) (v := ?_) rfl (by kernel_rfl) (by kernel_rfl) (by kernel_rfl) (fun _ _ _ h => h) (Or.inl ⟨by rfl, ?_⟩) (by assumption) ?_; rotate_left
              · intro w0 hSw; (try dsimp only at hSw); go_simp <;> with_reducible rfl
              try simp only [Act.put, zz1, zz2, zz3, zz4, zz5, zz6]
              refine wpAnyH_take (i := 14) (v := ?_) rfl (by kernel_rfl) (by kernel_rfl) (by kernel_rfl) (fun _ _ _ h => h) (Or.inl ⟨by rfl, ?_⟩) (by assumption) ?_; rotate_left
              · intro w0 hSw; (try dsimp only at hSw); go_simp <;> with_reducible rfl
              try simp only [Act.put, zz1, zz2, zz3, zz4, zz5, zz6]
              refine wpAnyH_take (i := 15) (v := ?_) rfl (by kernel_rfl) (by kernel_rfl) (by kernel_rfl) (fun _ _ _ h => h) (Or.inl ⟨by rfl, ?_⟩) (by assumption) ?_; rotate_left
              · intro w0 hSw; (try dsimp only at hSw); go_simp <;> with_reducible rfl
              try simp only [Act.put, zz1, zz2, zz3, zz4, zz5, zz6]
              refine wpAnyH_take (i := 16) (v := ?_) rfl (by kernel_rfl) (by kernel_rfl) (by kernel_rfl) (fun _ _ _ h => h) (Or.inl ⟨by rfl, ?_⟩) (by assumption) ?_; rotate_left
              · intro w0 hSw; (try dsimp only at hSw); go_simp <;> with_reducible rfl
              try simp only [Act.put, zz1, zz2, zz3, zz4, zz5, zz6]
              refine wpAnyH_take (i := 17) (v := ?_) rfl (by kernel_rfl) (by kernel_rfl) (by kernel_rfl) (fun _ _ _ h => h) (Or.inl ⟨by rfl, ?_⟩) (by assumption) ?_; rotate_left
              · intro w0 hSw; (try dsimp only at hSw); go_simp <;> with_reducible rfl
              try simp only [Act.put, zz1, zz2, zz3, zz4, zz5, zz6]
              refine wpAnyH_take (i := 18) (v := ?_) rfl (by kernel_rfl) (by kernel_rfl) (by kernel_rfl) (fun _ _ _ h => h) (Or.inl ⟨by rfl, ?_⟩) (by assumption) ?_; rotate_left
              · intro w0 hSw; (try dsimp only at hSw); go_simp <;> with_reducible rfl
              try simp only [Act.put, zz1, zz2, zz3, zz4, zz5, zz6]
              refine wpAnyH_take (i := 19) (v := ?_) rfl (by kernel_rfl) (by kernel_rfl) (by kernel_rfl) (fun _ _ _ h => h) (Or.inl ⟨by rfl, ?_⟩) (by assumption) ?_; rotate_left
              · intro w0 hSw; (try dsimp only at hSw); go_simp <;> with_reducible rfl
              try simp only [Act.put, zz1, zz2, zz3, zz4, zz5, zz6]
              refine wpAnyH_ready (rs := [11]) (by kernel_rfl) (by simp) ?_; refine AllReadyH.cons rfl (fun K hK => ?_) AllReadyH.nil
              go_simp
              refine (LEN.out wa ba).mono ?_; rintro r wb ⟨rfl, rfl⟩
              (try go_wp2_with fail)
              refine hK.out _ _ ?_ (fun hHeld => ?_)
              · exact ⟨y16a, y6a, yba⟩
              clear hK K
              try simp only [Act.put, zz1, zz2, zz3, zz4, zz5, zz6]
              refine wpAnyH_take (i := 20) (v := ?_) rfl (by kernel_rfl) (by kernel_rfl) (by kernel_rfl) (fun _ _ _ h => h) (Or.inl ⟨by rfl, ?_⟩) (by assumption) ?_; rotate_left
              · intro w0 hSw; (try dsimp only at hSw); go_simp <;> with_reducible rfl
              try simp only [Act.put, zz1, zz2, zz3, zz4, zz5, zz6]
              refine wpAnyH_take (i := 21) (v := ?_) rfl (by kernel_rfl) (by kernel_rfl) (by kernel_rfl) (fun _ _ _ h => h) (Or.inl ⟨by rfl, ?_⟩) (by assumption) ?_; rotate_left
              · intro w0 hSw; (try dsimp only at hSw); go_simp <;> with_reducible rfl
              try simp only [Act.put, zz1, zz2, zz3, zz4, zz5, zz6]
              refine wpAnyH_done (by kernel_rfl) ?_ _; obtain ⟨f1, f2, j9, -, -, -⟩ := J9.out.below (btr (bdrew1 w9) ba); have J10 := hide j9; have STT := hide (fun (k : Nat) => state_any L1 f1 s' (k : Int) wb j9.p); obtain ⟨C9, B9, FB9, hd9, pa9, pc9, oa9, oc9, bs9, Fs9, cs9, ta9, tc9, h9⟩ := j9.r; have MT := hide (fun (k : Nat) (hk : k < s'.cr.length) => h9.mate hk); have y6b := y6a; have ybb := yba; clear h9 j9 EVS LEN J9 y16 y16d y16a y6 y6d y6a yb ybd yba ba; go_wp2_with fail
              go_loop [135] (fun kv => ∃ k : Nat, k ≤ nc ∧ kv = .int .i64 k) (fun kv => nc - (intOf kv).toNat)
              case atStart => exact ⟨0, Nat.zero_le _, rfl⟩
              case round =>
                obtain ⟨k, hk, rfl⟩ := hrel
                by_cases hkl : k < nc
                · have hkl' : (k : Int) < (nc : Int) := by omega
                  have kk0 : (0 : Int) ≤ (k : Int) := by omega
                  have STK := hide (STT.out k)
                  have thr : Cr.thr s'.cr (k : Int) = true := by
                    unfold Cr.thr; rw [Cr.gt_nat, List.getElem?_eq_getElem (by rw [NCC.out]; exact hkl)]
                    rfl
                  rw [thr] at STK; obtain ⟨mb2, mc2, z6, z0, zs⟩ := MT.out k (by rw [NCC.out]; exact hkl); rw [NCC.out] at z0
                  have eB : B9 = B := by have h := z6.symm.trans y6b; simpa using h
                  subst eB; have eM : Value.slice (some ⟨mb2, 0, none⟩) nc mc2 = Value.slice ma nc mc := Option.some.inj (z0.symm.trans ybb); injection eM with eM1 eM2 eM3; subst eM1; clear eM2 z6 z0; generalize (Cr.one0 (Cr.gt s'.cr (k : Int))).s = ss at STK zs
                  have sss : (ss != ss) = false := by simp
                  clear thr STT MT; go_wp2_with fail
                  refine STK.out.mono ?_; rintro r wc ⟨rfl, rfl⟩; go_wp2_with fail
                  go_round
                  case rel => exact ⟨k + 1, by omega, by go_num⟩
                  case measure => simp [intOf]; omega
                · have hkl' : ¬ ((k : Int) < (nc : Int)) := by omega
                  go_wp2_with fail
                  go_roundw
                  case rel => exact ⟨n + 1, f1, f2, by omega, by go_num, by rw [SE.out]; exact J10.out⟩
                  case measure => simp [intOf]; omega
            · obtain ⟨h1, h2, h3, h4, h5, h6, h7⟩ := schk_ok HSC.out
              have ht0 : 0 ≤ nth s.p 0 := by
                have hm : nth s.p 0 ∈ sc.pl := by
                  rw [nth_lt _ _ hpl0]
                  have hsub : ∀ x ∈ s.p, x ∈ sc.pl := fun x hx => by
                    rw [INV.out.p] at hx
                    exact List.mem_of_mem_drop hx
                  exact hsub _ (List.getElem_mem hpl0)
                have := h6 _ hm
                omega
              obtain ⟨kk, y, hwk, hky, hy0⟩ := who_ok hv ht0
              have hg : Cr.one0 (Cr.gt s.cr (whoN s)) = y := by
                rw [hwk, Cr.gt_nat, hky]
                rfl
              have hym := List.mem_of_getElem? hky; have hyp := INV.out.b.cp y hym; have hyq := INV.out.b.bw.cb y hym; obtain ⟨yp, yq, ys⟩ := y; simp only at hyp hyq hy0; obtain ⟨p, rfl⟩ : ∃ p : Nat, yp = (p : Int) := ⟨yp.toNat, by omega⟩; obtain ⟨q, rfl⟩ : ∃ q : Nat, yq = (q : Int) := ⟨yq.toNat, by omega⟩
              have hpl : p < s.ps.length := by rw [INV.out.ps]; omega
              have hs4 : ∀ x ∈ s.ps, ∀ o ∈ x, o.cases.length ≤ 4 := fun x hx o ho => by
                rw [INV.out.ps] at hx; obtain ⟨a, ha⟩ := List.getElem?_of_mem hx; obtain ⟨b, hb⟩ := List.getElem?_of_mem ho
                exact (op_ok (Sh.ari_of h5 ha hb)).2.2.1
              have NX := hide (next_op L1 c1 s _ p q wr J.out.p OKK.out.cb hv HLEN.out ht (by rw [hg]) (by rw [hg]) hpl hs4)
              have hA : 0 < (Cr.abl s.cr).length := by
                apply abl_pos
                unfold Cr.hasS; rw [List.any_eq_true]
                exact ⟨_, hym, by simp [hy0]⟩
              have hAm : (Cr.abl s.cr).length ≤ 1000 := by
                have e1 : (Cr.abl s.cr).length ≤ s.cr.length := Rlo.abl_len s.cr 0; have e2 := INV.out.b.cl
                omega
              have WHO := hide (fun u c (q : Rlo.RW u c L2 w1.heap.size s) => Rlo.rwho_go L2 w1.heap.size c s u q hpl0 ht0 hA hAm); have ROP := hide (fun u c (z : Rlo.RW u c L2 w1.heap.size s) => Rlo.rop_any L2 w1.heap.size c s kk p q ys u z hky hpl); have hoc := op_chk HSC.out INV.out (whoN s); have ho4 := (op_ok hoc).2.2.1
              have JE : Hid (∃ j, 0 < j ∧ (stepF s).tr.length = s.tr.length + j) := by
                obtain ⟨e, l, hel⟩ := sp_do (s := { s with p := s.p.tail }) (g := whoN s) hoc OKK.out.dd (by rw [hwk]; omega); refine ⟨l.length + 1, by omega, ?_⟩; unfold stepF; rw [if_neg (by omega), if_neg ht, hel]
                simp
              rw [hwk] at NX WHO ho4; generalize opOf s (kk : Int) = o at NX ROP ho4; unfold opV at NX ROP; have g0 : decide (0 ≤ (kk : Int)) = true := decide_eq_true (by omega); have g1x : decide ((kk : Int) < 0) = false := decide_eq_false (by omega)
              have gg : ((kk : Int) != (kk : Int)) = false := by simp
              clear SS WBB INV OKK HLEN hv ht hpl0 ht0 hwk hky hy0 hg hym hyp hyq hpl hs4 hA hAm hoc h1 h2 h3 h4 h5 h6 h7; go_wp2_with fail
              refine NX.out.mono ?_; rintro r w2 ⟨oc, cc, rfl, ca2, -, b2⟩; obtain ⟨d1, d2, j2, -, -, -⟩ := J.out.below (btr b2 (below_alloc w2 (.cells #[.int .i64 o.kind, .int .i64 o.a, .int .i64 o.b, .slice oc o.cases.length cc, .bool o.def_] 44))); have J2 := hide j2; have E2 := hide (heap_new w2 (.cells #[.int .i64 o.kind, .int .i64 o.a, .int .i64 o.b, .slice oc o.cases.length cc, .bool o.def_] 44)); have VR2 := hide (VR.out _ d2 j2.r); clear j2 NX J; go_wp2_with fail
              refine VR2.out.mono ?_; rintro r w3 ⟨rfl, b3⟩; obtain ⟨e1, e2, j3, -, -, -⟩ := J2.out.below b3; have J3 := hide j3; have B3 := hide b3; have VP3 := hide (VP.out _ e1 j3.p); clear b3 j3 VR2 J2; go_wp2_with fail
              refine VP3.out.mono ?_; rintro r w4 ⟨rfl, b4⟩; obtain ⟨f1, f2, j4, -, -, -⟩ := J3.out.below b4; have J4 := hide j4; have B4 := hide (btr B3.out b4); have VR4 := hide (VR.out _ f2 j4.r); clear b4 j4 VP3 J3 VP B3; go_wp2_with fail
              refine VR4.out.mono ?_; rintro r w5 ⟨rfl, b5⟩; obtain ⟨g1, g2, j5, -, -, -⟩ := J4.out.below b5; have J5 := hide j5; have B5 := hide (btr B4.out b5); have WH5 := hide (WHO.out _ g2 j5.r); clear b5 j5 VR4 J4 VR WHO B4; go_wp2_with fail
              refine WH5.out.mono ?_; rintro r w6 ⟨rfl, b6⟩; obtain ⟨k1, k2, j6, -, -, -⟩ := J5.out.below b6; have J6 := hide j6; have B6 := hide (btr B5.out b6); clear b6 WH5 J5 B5; have E6 := hide (heap_below E2.out B6.out); have CA6 := hide ((ca2.below (below_alloc w2 (.cells #[.int .i64 o.kind, .int .i64 o.a, .int .i64 o.b, .slice oc o.cases.length cc, .bool o.def_] 44))).below B6.out); obtain ⟨m1, m2, jd, -, -, -⟩ := J6.out.below (bdrew1 w6); have RO6 := hide (ROP.out _ m2 jd.r)
              have PLO : Hid (∀ u oc2 cc2, De.CAt u oc o.cases → De.CAt u oc2 o.cases → Calls Tryz.prog 16 #[.agg #[.int .i64 o.kind, .int .i64 o.a, .int .i64 o.b, .slice oc o.cases.length cc, .bool o.def_], .agg #[.int .i64 o.kind, .int .i64 o.a, .int .i64 o.b, .slice oc2 o.cases.length cc2, .bool o.def_]] u fun r w' => r = .returned (.bool true) ∧ Below u.heap.size u w') := by
                intro u oc2 cc2 ca cb
                refine (Dz.plain_any o o oc oc2 cc cc2 u ca cb (by omega) (by omega)).mono ?_; rintro r wx ⟨⟨x, rfl, hx⟩, bx⟩; have : x = true := hx.2 rfl; subst this
                exact ⟨rfl, bx⟩
              have o0 : w6.drew.cell? ⟨w2.heap.size, 0, none⟩ = some (.int .i64 o.kind) := cell_of E6.out 0; have o1 : w6.drew.cell? ⟨w2.heap.size, 1, none⟩ = some (.int .i64 o.a) := cell_of E6.out 1; have o2 : w6.drew.cell? ⟨w2.heap.size, 2, none⟩ = some (.int .i64 o.b) := cell_of E6.out 2; have o3 : w6.drew.cell? ⟨w2.heap.size, 3, none⟩ = some (.slice oc o.cases.length cc) := cell_of E6.out 3; have o4 : w6.drew.cell? ⟨w2.heap.size, 4, none⟩ = some (.bool o.def_) := cell_of E6.out 4; clear E2 B6 j6 ca2 b2 jd ROP; go_wp2_with fail
              refine wp_region_held_drew (S := fun w' => w'.cell? ⟨w2.heap.size, 0, none⟩ = some (.int .i64 o.kind) ∧ w'.cell? ⟨w2.heap.size, 1, none⟩ = some (.int .i64 o.a) ∧ w'.cell? ⟨w2.heap.size, 2, none⟩ = some (.int .i64 o.b) ∧ w'.cell? ⟨w2.heap.size, 3, none⟩ = some (.slice oc o.cases.length cc) ∧ w'.cell? ⟨w2.heap.size, 4, none⟩ = some (.bool o.def_)) (by kernel_rfl) ?_ (fun hHeld => ?_)
              · exact ⟨o0, o1, o2, o3, o4⟩
              refine wpAnyH_take (i := 0) (v := ?_) rfl (by kernel_rfl) (by kernel_rfl) (by kernel_rfl) (fun _ _ _ h => h) (Or.inl ⟨by rfl, ?_⟩) (by assumption) ?_; rotate_left
              · intro w0 hSw; (try dsimp only at hSw); go_simp <;> with_reducible rfl
              try simp only [Act.put, zz1, zz2, zz4, zz5, zz6]
              refine wpAnyH_take (i := 1) (v := ?_) rfl (by kernel_rfl) (by kernel_rfl) (by kernel_rfl) (fun _ _ _ h => h) (Or.inl ⟨by rfl, ?_⟩) (by assumption) ?_; rotate_left
              · intro w0 hSw; (try dsimp only at hSw); go_simp <;> with_reducible rfl
              try simp only [Act.put, zz1, zz2, zz3, zz4, zz5, zz6]
              refine wpAnyH_take (i := 2) (v := ?_) rfl (by kernel_rfl) (by kernel_rfl) (by kernel_rfl) (fun _ _ _ h => h) (Or.inl ⟨by rfl, ?_⟩) (by assumption) ?_; rotate_left
              · intro w0 hSw; (try dsimp only at hSw); go_simp <;> with_reducible rfl
              try simp only [Act.put, zz1, zz2, zz3, zz4, zz5, zz6]
              refine wpAnyH_take (i := 3) (v := ?_) rfl (by kernel_rfl) (by kernel_rfl) (by kernel_rfl) (fun _ _ _ h => h) (Or.inl ⟨by rfl, ?_⟩) (by assumption) ?_; rotate_left
              · intro w0 hSw; (try dsimp only at hSw); go_simp <;> with_reducible rfl
              try simp only [Act.put, zz1, zz2, zz3, zz4, zz5, zz6]
              refine wpAnyH_take (i := 4) (v := ?_) rfl (by kernel_rfl) (by kernel_rfl) (by kernel_rfl) (fun _ _ _ h => h) (Or.inl ⟨by rfl, ?_⟩) (by assumption) ?_; rotate_left
              · intro w0 hSw; (try dsimp only at hSw); go_simp <;> with_reducible rfl
              try simp only [Act.put, zz1, zz2, zz3, zz4, zz5, zz6]
              refine wpAnyH_take (i := 5) (v := ?_) rfl (by kernel_rfl) (by kernel_rfl) (by kernel_rfl) (fun _ _ _ h => h) (Or.inl ⟨by rfl, ?_⟩) (by assumption) ?_; rotate_left
              · intro w0 hSw; (try dsimp only at hSw); go_simp <;> with_reducible rfl
              try simp only [Act.put, zz1, zz2, zz3, zz4, zz5, zz6]
              refine wpAnyH_take (i := 6) (v := ?_) rfl (by kernel_rfl) (by kernel_rfl) (by kernel_rfl) (fun _ _ _ h => h) (Or.inl ⟨by rfl, ?_⟩) (by assumption) ?_; rotate_left
              · intro w0 hSw; (try dsimp only at hSw); go_simp <;> with_reducible rfl
              try simp only [Act.put, zz1, zz2, zz3, zz4, zz5, zz6]
              refine wpAnyH_take (i := 7) (v := ?_) rfl (by kernel_rfl) (by kernel_rfl) (by kernel_rfl) (fun _ _ _ h => h) (Or.inl ⟨by rfl, ?_⟩) (by assumption) ?_; rotate_left
              · intro w0 hSw; (try dsimp only at hSw); go_simp <;> with_reducible rfl
              try simp only [Act.put, zz1, zz2, zz3, zz4, zz5, zz6]
              refine wpAnyH_take (i := 8) (v := ?_) rfl (by kernel_rfl) (by kernel_rfl) (by kernel_rfl) (fun _ _ _ h => h) (Or.inl ⟨by rfl, ?_⟩) (by assumption) ?_; rotate_left
              · intro w0 hSw; (try dsimp only at hSw); go_simp <;> with_reducible rfl
              try simp only [Act.put, zz1, zz2, zz3, zz4, zz5, zz6]
              refine wpAnyH_take (i := 9) (v := ?_) rfl (by kernel_rfl) (by kernel_rfl) (by kernel_rfl) (fun _ _ _ h => h) (Or.inl ⟨by rfl, ?_⟩) (by assumption) ?_; rotate_left
              · intro w0 hSw; (try dsimp only at hSw); go_simp <;> with_reducible rfl
              try simp only [Act.put, zz1, zz2, zz3, zz4, zz5, zz6]
              refine wpAnyH_ready (rs := [10]) (by kernel_rfl) (by simp) ?_; refine AllReadyH.cons rfl (fun K hK => ?_) AllReadyH.nil
              go_simp
              refine RO6.out.mono ?_; rintro r w7 ⟨oc2, cc2, rfl, ca7, -, b7⟩
              (try go_wp2_with fail)
              refine hK.out _ _ ?_ (fun hHeld => ?_)
              · exact ⟨Sh.cellB o0 b7, Sh.cellB o1 b7, Sh.cellB o2 b7, Sh.cellB o3 b7, Sh.cellB o4 b7⟩
              clear hK K
              try simp only [Act.put, zz1, zz2, zz3, zz4, zz5, zz6]
              refine wpAnyH_ready (rs := [11]) (by kernel_rfl) (by simp) ?_; refine AllReadyH.cons rfl (fun K hK => ?_) AllReadyH.nil
              go_simp
              refine (PLO.out w7 oc2 cc2 (CA6.out.below (btr (bdrew1 w6) b7)) ca7).mono ?_; rintro r w8 ⟨rfl, b8⟩
              (try go_wp2_with fail)
              refine hK.out _ _ ?_ (fun hHeld => ?_)
              · exact ⟨Sh.cellB (Sh.cellB o0 b7) b8, Sh.cellB (Sh.cellB o1 b7) b8, Sh.cellB (Sh.cellB o2 b7) b8, Sh.cellB (Sh.cellB o3 b7) b8, Sh.cellB (Sh.cellB o4 b7) b8⟩
              clear hK K
              try simp only [Act.put, zz1, zz2, zz3, zz4, zz5, zz6]
              refine wpAnyH_take (i := 12) (v := ?_) rfl (by kernel_rfl) (by kernel_rfl) (by kernel_rfl) (fun _ _ _ h => h) (Or.inl ⟨by rfl, ?_⟩) (by assumption) ?_; rotate_left
              · intro w0 hSw; (try dsimp only at hSw); go_simp <;> with_reducible rfl
              try simp only [Act.put, zz1, zz2, zz3, zz4, zz5, zz6]
              refine wpAnyH_take (i := 13) (v := ?_) rfl (by kernel_rfl) (by kernel_rfl) (by kernel_rfl) (fun _ _ _ h => h) (Or.inl ⟨by rfl, ?_⟩) (by assumption) ?_; rotate_left
              · intro w0 hSw; (try dsimp only at hSw); go_simp <;> with_reducible rfl
              try simp only [Act.put, zz1, zz2, zz3, zz4, zz5, zz6]
              refine wpAnyH_take (i := 14) (v := ?_) rfl (by kernel_rfl) (by kernel_rfl) (by kernel_rfl) (fun _ _ _ h => h) (Or.inl ⟨by rfl, ?_⟩) (by assumption) ?_; rotate_left
              · intro w0 hSw; (try dsimp only at hSw); go_simp <;> with_reducible rfl
              try simp only [Act.put, zz1, zz2, zz3, zz4, zz5, zz6]
              refine wpAnyH_take (i := 15) (v := ?_) rfl (by kernel_rfl) (by kernel_rfl) (by kernel_rfl) (fun _ _ _ h => h) (Or.inl ⟨by rfl, ?_⟩) (by assumption) ?_; rotate_left
              · intro w0 hSw; (try dsimp only at hSw); go_simp <;> with_reducible rfl
              try simp only [Act.put, zz1, zz2, zz3, zz4, zz5, zz6]
              refine wpAnyH_take (i := 16) (v := ?_) rfl (by kernel_rfl) (by kernel_rfl) (by kernel_rfl) (fun _ _ _ h => h) (Or.inl ⟨by rfl, ?_⟩) (by assumption) ?_; rotate_left
              · intro w0 hSw; (try dsimp only at hSw); go_simp <;> with_reducible rfl
              try simp only [Act.put, zz1, zz2, zz3, zz4, zz5, zz6]
              refine wpAnyH_take (i := 17) (v := ?_) rfl (by kernel_rfl) (by kernel_rfl) (by kernel_rfl) (fun _ _ _ h => h) (Or.inl ⟨by rfl, ?_⟩) (by assumption) ?_; rotate_left
              · intro w0 hSw; (try dsimp only at hSw); go_simp <;> with_reducible rfl
              try simp only [Act.put, zz1, zz2, zz3, zz4, zz5, zz6]
              refine wpAnyH_take (i := 18) (v := ?_) rfl (by kernel_rfl) (by kernel_rfl) (by kernel_rfl) (fun _ _ _ h => h) (Or.inl ⟨by rfl, ?_⟩) (by assumption) ?_; rotate_left
              · intro w0 hSw; (try dsimp only at hSw); go_simp <;> with_reducible rfl
              try simp only [Act.put, zz1, zz2, zz3, zz4, zz5, zz6]
              refine wpAnyH_take (i := 19) rfl (by kernel_rfl) (by kernel_rfl) (by kernel_rfl) (fun _ _ _ h => h) (Or.inr ⟨by rfl, rfl⟩) (by assumption) ?_
              try simp only [Act.put, zz1, zz2, zz3, zz4, zz5, zz6]
              refine wpAnyH_take (i := 20) rfl (by kernel_rfl) (by kernel_rfl) (by kernel_rfl) (fun _ _ _ h => h) (Or.inr ⟨by rfl, rfl⟩) (by assumption) ?_
              try simp only [Act.put, zz1, zz2, zz3, zz4, zz5, zz6]
              refine wpAnyH_take (i := 21) rfl (by kernel_rfl) (by kernel_rfl) (by kernel_rfl) (fun _ _ _ h => h) (Or.inr ⟨by rfl, rfl⟩) (by assumption) ?_
              try simp only [Act.put, zz1, zz2, zz3, zz4, zz5, zz6]
              refine wpAnyH_take (i := 22) rfl (by kernel_rfl) (by kernel_rfl) (by kernel_rfl) (fun _ _ _ h => h) (Or.inr ⟨by rfl, rfl⟩) (by assumption) ?_
              try simp only [Act.put, zz1, zz2, zz3, zz4, zz5, zz6]
              refine wpAnyH_take (i := 23) (v := ?_) rfl (by kernel_rfl) (by kernel_rfl) (by kernel_rfl) (fun _ _ _ h => h) (Or.inl ⟨by rfl, ?_⟩) (by assumption) ?_; rotate_left
              · intro w0 hSw; (try dsimp only at hSw); go_simp <;> with_reducible rfl
              try simp only [Act.put, zz1, zz2, zz3, zz4, zz5, zz6]
              refine wpAnyH_take (i := 24) (v := ?_) rfl (by kernel_rfl) (by kernel_rfl) (by kernel_rfl) (fun _ _ _ h => h) (Or.inl ⟨by rfl, ?_⟩) (by assumption) ?_; rotate_left
              · intro w0 hSw; (try dsimp only at hSw); go_simp <;> with_reducible rfl
              try simp only [Act.put, zz1, zz2, zz3, zz4, zz5, zz6]
              refine wpAnyH_done (by kernel_rfl) ?_ _; obtain ⟨q1, q2, j8, -, -, -⟩ := J6.out.below (btr (btr (bdrew1 w6) b7) b8); clear b7 b8 ca7 PLO RO6 CA6 J6 E6 o0 o1 o2 o3 o4 g0 g1x gg; have J8 := hide j8; have SP8 := hide (SP.out _ q1 j8.p); obtain ⟨C5, B5, FB5, hd5, pa5, pc5, oa5, oc5, bs5, Fs5, cs5, ta5, tc5, h5⟩ := j8.r; have y16 := cell_of h5.hp 16
              simp [Rlo.rcs] at y16
              clear j8 h5 SP; go_wp2_with fail
              refine SP8.out.mono ?_; rintro r w7x ⟨ob, d, rfl, ⟨es7, fr7⟩, c7, h7, t7⟩; obtain ⟨c8, j7, n7⟩ := J8.out.prog h7 t7; have J7 := hide j7; have ES7 := hide es7
              have FR7 : Hid (∀ a, ob = some a → 6 ≤ c8 a.block) := fun a e => by rw [n7 _ (fr7 a e)]; omega
              have SR7 := hide (SRR.out _ c8 j7.r); clear es7 fr7 h7 t7 j7 n7 SP8 J8 SRR y16; go_wp2_with fail
              refine SR7.out.mono ?_; rintro r w9 ⟨rfl, c9, h9, t9⟩; obtain ⟨d9, j9⟩ := J7.out.ref h9 t9; have J9 := hide j9; have ES9 := hide (Rlo.es_tq ES7.out FR7.out t9); clear h9 t9 SR7 J7 ES7 FR7; obtain ⟨C, B, FB, hd, pa9, pc9, oa9, oc9, bs9, Fs9, cs9, ta, tc, h9⟩ := j9.r; have y16 : w9.cell? ⟨L2, 16, none⟩ = some (.slice ta (stepF s).tr.length tc) := cell_of h9.hp 16; have OT := hide h9.tr; obtain ⟨ma, mc, y6, yb⟩ := h9.crewRow; obtain ⟨s', HSS⟩ : ∃ s', stepF s = s' := ⟨_, rfl⟩; rw [HSS] at J9 SE ES9 y16 OT yb JE TN HNC; obtain ⟨nc, NCC⟩ : ∃ nc, Hid (s'.cr.length = nc) := ⟨_, rfl⟩; rw [NCC.out] at yb
              have hnc : nc ≤ 1000 := by have := HNC.out; rw [NCC.out] at this; exact this
              have LEN := hide (fun u (q : Below w9.drew.heap.size w9.drew u) => by
                obtain ⟨x1, x2, jx, -⟩ := J9.out.below (btr (bdrew1 w9) q); have := len_any L1 x1 s' u jx.p; rw [NCC.out] at this
                exact this)
              obtain ⟨j, hj0, hjl⟩ := JE.out; have htn := TN.out; rw [hjl] at htn
              rcases OT.out.2 with ⟨e0, e1⟩ | ⟨gb, cap, cur, e0, -, -, hcap, -⟩
              · exfalso
                rw [hjl] at e1
                omega
              cases e0
              have hne : ¬ (tc = s.tr.length) := by omega
              have TES := hide (tail_es (n := s.tr.length) OT.out)
              have hdl : (s'.tr.drop s.tr.length).length = j := by rw [List.length_drop, hjl]; omega
              obtain ⟨oz, dz, SL, TE2⟩ : ∃ oz dz, Hid (∀ u, (Instr.sliceAt 28 (.slice (some ⟨gb, 0, none⟩) s'.tr.length tc) (some (.int .i64 (s.tr.length : Int))) none none).run Tryz.prog u = .ok (.slice oz j dz) u) ∧ Hid (EsAt w9 oz (s'.tr.drop s.tr.length)) := by
                refine ⟨some ⟨gb, s.tr.length * 8, none⟩, tc - s.tr.length, fun u => ?_, TES.out⟩
                have := Rlo.slice_at u (some ⟨gb, 0, none⟩) s'.tr.length tc s.tr.length (by omega); rw [if_neg hne, show s'.tr.length - s.tr.length = j by omega] at this
                have ea : (⟨gb, 0, none⟩ : Addr).add (s.tr.length * 8) = ⟨gb, s.tr.length * 8, none⟩ := by
                  unfold Addr.add
                  split
                  · rename_i h0
                    rw [h0]
                  · simp
                simp only [Option.map_some, ea] at this
                exact this
              have EVS := hide (events_same ob oz (s'.tr.drop s.tr.length) d dz w9.drew (ES9.out.below (bdrew1 _)) (TE2.out.below (bdrew1 _)) (by omega)); rw [hdl] at EVS
              have hsub : s'.tr.length - s.tr.length = j := by omega
              rw [HSS, hsub]; clear OT TES TE2 ES9 h9 j9 hne hdl hsub hcap HSS hjl hj0; have y16d : w9.drew.cell? ⟨L2, 16, none⟩ = some (.slice (some ⟨gb, 0, none⟩) s'.tr.length tc) := y16; have y6d : w9.drew.cell? ⟨L2, 6, none⟩ = some (.pointer (some ⟨B, 0, none⟩)) := y6; have ybd : w9.drew.cell? ⟨B, 0, none⟩ = some (.slice ma nc mc) := yb
              have ncc : ((nc : Int) != (nc : Int)) = false := by simp
              go_wp2_with fail
              refine wp_region_held_drew (S := fun w' => w'.cell? ⟨L2, 16, none⟩ = some (.slice (some ⟨gb, 0, none⟩) s'.tr.length tc) ∧ w'.cell? ⟨L2, 6, none⟩ = some (.pointer (some ⟨B, 0, none⟩)) ∧ w'.cell? ⟨B, 0, none⟩ = some (.slice ma nc mc)) (by kernel_rfl) ?_ (fun hHeld => ?_)
              · exact ⟨y16d, y6d, ybd⟩
              refine wpAnyH_take (i := 0) (v := ?_) rfl (by kernel_rfl) (by kernel_rfl) (by kernel_rfl) (fun _ _ _ h => h) (Or.inl ⟨by rfl, ?_⟩) (by assumption) ?_; rotate_left
              · intro w0 hSw; (try dsimp only at hSw); go_simp <;> with_reducible rfl
              try simp only [Act.put, zz1, zz2, zz4, zz5, zz6]
              refine wpAnyH_take (i := 1) (v := ?_) rfl (by kernel_rfl) (by kernel_rfl) (by kernel_rfl) (fun _ _ _ h => h) (Or.inl ⟨by rfl, ?_⟩) (by assumption) ?_; rotate_left
              · intro w0 hSw; (try dsimp only at hSw); go_simp <;> with_reducible rfl
              try simp only [Act.put, zz1, zz2, zz3, zz4, zz5, zz6]
              refine wpAnyH_take (i := 2) (v := ?_) rfl (by kernel_rfl) (by kernel_rfl) (by kernel_rfl) (fun _ _ _ h => h) (Or.inl ⟨by rfl, ?_⟩) (by assumption) ?_; rotate_left
              · intro w0 hSw; (try dsimp only at hSw); go_simp <;> with_reducible rfl
              try simp only [Act.put, zz1, zz2, zz3, zz4, zz5, zz6]
              refine wpAnyH_take (i := 3) (v := ?_) rfl (by kernel_rfl) (by kernel_rfl) (by kernel_rfl) (fun _ _ _ h => h) (Or.inl ⟨by rfl, ?_⟩) (by assumption) ?_; rotate_left
              · intro w0 hSw; (try dsimp only at hSw); go_simp <;> with_reducible rfl
              try simp only [Act.put, zz1, zz2, zz3, zz4, zz5, zz6]
              refine wpAnyH_take (i := 4) (v := ?_) rfl (by kernel_rfl) (by kernel_rfl) (by kernel_rfl) (fun _ _ _ h => h) (Or.inl ⟨by rfl, ?_⟩) (by assumption) ?_; rotate_left
              · intro w0 hSw; (try dsimp only at hSw); go_simp <;> with_reducible rfl
              try simp only [Act.put, zz1, zz2, zz3, zz4, zz5, zz6]
              refine wpAnyH_take (i := 5) (v := ?_) rfl (by kernel_rfl) (by kernel_rfl) (by kernel_rfl) (fun _ _ _ h => h) (Or.inl ⟨by rfl, ?_⟩) (by assumption) ?_; rotate_left
              · intro w0 hSw; (try dsimp only at hSw); go_simp <;> with_reducible rfl
              try simp only [Act.put, zz1, zz2, zz3, zz4, zz5, zz6]
              refine wpAnyH_take (i := 6) (v := .slice oz j dz) rfl (by kernel_rfl) (by kernel_rfl) (by kernel_rfl) (fun _ _ _ h => h) (Or.inl ⟨by rfl, ?_⟩) (by assumption) ?_
              · intro w0 hSw; refine Eq.trans (b := Sem.run Tryz.prog (Instr.sliceAt 28 (.slice (some ⟨gb, 0, none⟩) s'.tr.length tc) (some (.int .i64 (s.tr.length : Int))) none none >>= fun x => pure (Next.value x)) w0) (by kernel_rfl) ?_; rw [Sem.run_bind, SL.out w0]; rfl
              try simp only [Act.put, zz1, zz2, zz3, zz4, zz5, zz6]
              refine wpAnyH_ready (rs := [7]) (by kernel_rfl) (by simp) ?_; refine AllReadyH.cons rfl (fun K hK => ?_) AllReadyH.nil
              go_simp
              refine EVS.out.mono ?_; rintro r wa ⟨rfl, ba⟩; have y16a := Sh.cellB y16d ba; have y6a := Sh.cellB y6d ba; have yba := Sh.cellB ybd ba
              (try go_wp2_with fail)
              refine hK.out _ _ ?_ (fun hHeld => ?_)
              · exact ⟨y16a, y6a, yba⟩
              clear hK K
              try simp only [Act.put, zz1, zz2, zz3, zz4, zz5, zz6]
              refine wpAnyH_take (i := 8) (v := ?_) rfl (by kernel_rfl) (by kernel_rfl) (by kernel_rfl) (fun _ _ _ h => h) (Or.inl ⟨by rfl, ?_⟩) (by assumption) ?_; rotate_left
              · intro w0 hSw; (try dsimp only at hSw); go_simp <;> with_reducible rfl
              try simp only [Act.put, zz1, zz2, zz3, zz4, zz5, zz6]
              refine wpAnyH_take (i := 9) (v := ?_) rfl (by kernel_rfl) (by kernel_rfl) (by kernel_rfl) (fun _ _ _ h => h) (Or.inl ⟨by rfl, ?_⟩) (by assumption) ?_; rotate_left
              · intro w0 hSw; (try dsimp only at hSw); go_simp <;> with_reducible rfl
              try simp only [Act.put, zz1, zz2, zz3, zz4, zz5, zz6]
              refine wpAnyH_take (i := 10) (v := ?_) rfl (by kernel_rfl) (by kernel_rfl) (by kernel_rfl) (fun _ _ _ h => h) (Or.inl ⟨by rfl, ?_⟩) (by assumption) ?_; rotate_left
              · intro w0 hSw; (try dsimp only at hSw); go_simp <;> with_reducible rfl
              try simp only [Act.put, zz1, zz2, zz3, zz4, zz5, zz6]
              refine wpAnyH_take (i := 12) (v := ?_) rfl (by kernel_rfl) (by kernel_rfl) (by kernel_rfl) (fun _ _ _ h => h) (Or.inl ⟨by rfl, ?_⟩) (by assumption) ?_; rotate_left
              · intro w0 hSw; (try dsimp only at hSw); go_simp <;> with_reducible rfl
              try simp only [Act.put, zz1, zz2, zz3, zz4, zz5, zz6]
              refine wpAnyH_take (i := 13) (v := ?_) rfl (by kernel_rfl) (by kernel_rfl) (by kernel_rfl) (fun _ _ _ h => h) (Or.inl ⟨by rfl, ?_⟩) (by assumption) ?_; rotate_left
              · intro w0 hSw; (try dsimp only at hSw); go_simp <;> with_reducible rfl
              try simp only [Act.put, zz1, zz2, zz3, zz4, zz5, zz6]
              refine wpAnyH_take (i := 14) (v := ?_) rfl (by kernel_rfl) (by kernel_rfl) (by kernel_rfl) (fun _ _ _ h => h) (Or.inl ⟨by rfl, ?_⟩) (by assumption) ?_; rotate_left
              · intro w0 hSw; (try dsimp only at hSw); go_simp <;> with_reducible rfl
              try simp only [Act.put, zz1, zz2, zz3, zz4, zz5, zz6]
              refine wpAnyH_take (i := 15) (v := ?_) rfl (by kernel_rfl) (by kernel_rfl) (by kernel_rfl) (fun _ _ _ h => h) (Or.inl ⟨by rfl, ?_⟩) (by assumption) ?_; rotate_left
              · intro w0 hSw; (try dsimp only at hSw); go_simp <;> with_reducible rfl
              try simp only [Act.put, zz1, zz2, zz3, zz4, zz5, zz6]
              refine wpAnyH_take (i := 16) (v := ?_) rfl (by kernel_rfl) (by kernel_rfl) (by kernel_rfl) (fun _ _ _ h => h) (Or.inl ⟨by rfl, ?_⟩) (by assumption) ?_; rotate_left
              · intro w0 hSw; (try dsimp only at hSw); go_simp <;> with_reducible rfl
              try simp only [Act.put, zz1, zz2, zz3, zz4, zz5, zz6]
              refine wpAnyH_take (i := 17) (v := ?_) rfl (by kernel_rfl) (by kernel_rfl) (by kernel_rfl) (fun _ _ _ h => h) (Or.inl ⟨by rfl, ?_⟩) (by assumption) ?_; rotate_left
              · intro w0 hSw; (try dsimp only at hSw); go_simp <;> with_reducible rfl
              try simp only [Act.put, zz1, zz2, zz3, zz4, zz5, zz6]
              refine wpAnyH_take (i := 18) (v := ?_) rfl (by kernel_rfl) (by kernel_rfl) (by kernel_rfl) (fun _ _ _ h => h) (Or.inl ⟨by rfl, ?_⟩) (by assumption) ?_; rotate_left
              · intro w0 hSw; (try dsimp only at hSw); go_simp <;> with_reducible rfl
              try simp only [Act.put, zz1, zz2, zz3, zz4, zz5, zz6]
              refine wpAnyH_take (i := 19) (v := ?_) rfl (by kernel_rfl) (by kernel_rfl) (by kernel_rfl) (fun _ _ _ h => h) (Or.inl ⟨by rfl, ?_⟩) (by assumption) ?_; rotate_left
              · intro w0 hSw; (try dsimp only at hSw); go_simp <;> with_reducible rfl
              try simp only [Act.put, zz1, zz2, zz3, zz4, zz5, zz6]
              refine wpAnyH_ready (rs := [11]) (by kernel_rfl) (by simp) ?_; refine AllReadyH.cons rfl (fun K hK => ?_) AllReadyH.nil
              go_simp
              refine (LEN.out wa ba).mono ?_; rintro r wb ⟨rfl, rfl⟩
              (try go_wp2_with fail)
              refine hK.out _ _ ?_ (fun hHeld => ?_)
              · exact ⟨y16a, y6a, yba⟩
              clear hK K
              try simp only [Act.put, zz1, zz2, zz3, zz4, zz5, zz6]
              refine wpAnyH_take (i := 20) (v := ?_) rfl (by kernel_rfl) (by kernel_rfl) (by kernel_rfl) (fun _ _ _ h => h) (Or.inl ⟨by rfl, ?_⟩) (by assumption) ?_; rotate_left
              · intro w0 hSw; (try dsimp only at hSw); go_simp <;> with_reducible rfl
              try simp only [Act.put, zz1, zz2, zz3, zz4, zz5, zz6]
              refine wpAnyH_take (i := 21) (v := ?_) rfl (by kernel_rfl) (by kernel_rfl) (by kernel_rfl) (fun _ _ _ h => h) (Or.inl ⟨by rfl, ?_⟩) (by assumption) ?_; rotate_left
              · intro w0 hSw; (try dsimp only at hSw); go_simp <;> with_reducible rfl
              try simp only [Act.put, zz1, zz2, zz3, zz4, zz5, zz6]
              refine wpAnyH_done (by kernel_rfl) ?_ _; obtain ⟨f1, f2, j9, -, -, -⟩ := J9.out.below (btr (bdrew1 w9) ba); have J10 := hide j9; have STT := hide (fun (k : Nat) => state_any L1 f1 s' (k : Int) wb j9.p); obtain ⟨C9, B9, FB9, hd9, pa9, pc9, oa9, oc9, bs9, Fs9, cs9, ta9, tc9, h9⟩ := j9.r; have MT := hide (fun (k : Nat) (hk : k < s'.cr.length) => h9.mate hk); have y6b := y6a; have ybb := yba; clear h9 j9 EVS LEN J9 y16 y16d y16a y6 y6d y6a yb ybd yba ba; go_wp2_with fail
              go_loop [135] (fun kv => ∃ k : Nat, k ≤ nc ∧ kv = .int .i64 k) (fun kv => nc - (intOf kv).toNat)
              case atStart => exact ⟨0, Nat.zero_le _, rfl⟩
              case round =>
                obtain ⟨k, hk, rfl⟩ := hrel
                by_cases hkl : k < nc
                · have hkl' : (k : Int) < (nc : Int) := by omega
                  have kk0 : (0 : Int) ≤ (k : Int) := by omega
                  have STK := hide (STT.out k)
                  have thr : Cr.thr s'.cr (k : Int) = true := by
                    unfold Cr.thr; rw [Cr.gt_nat, List.getElem?_eq_getElem (by rw [NCC.out]; exact hkl)]
                    rfl
                  rw [thr] at STK; obtain ⟨mb2, mc2, z6, z0, zs⟩ := MT.out k (by rw [NCC.out]; exact hkl); rw [NCC.out] at z0
                  have eB : B9 = B := by have h := z6.symm.trans y6b; simpa using h
                  subst eB; have eM : Value.slice (some ⟨mb2, 0, none⟩) nc mc2 = Value.slice ma nc mc := Option.some.inj (z0.symm.trans ybb); injection eM with eM1 eM2 eM3; subst eM1; clear eM2 z6 z0; generalize (Cr.one0 (Cr.gt s'.cr (k : Int))).s = ss at STK zs
                  have sss : (ss != ss) = false := by simp
                  clear thr STT MT; go_wp2_with fail
                  refine STK.out.mono ?_; rintro r wc ⟨rfl, rfl⟩; go_wp2_with fail
                  go_round
                  case rel => exact ⟨k + 1, by omega, by go_num⟩
                  case measure => simp [intOf]; omega
                · have hkl' : ¬ ((k : Int) < (nc : Int)) := by omega
                  go_wp2_with fail
                  go_roundw
                  case rel => exact ⟨n + 1, f1, f2, by omega, by go_num, by rw [SE.out]; exact J10.out⟩
                  case measure => simp [intOf]; omega
          · have SE : Hid (stepsF (n + 1) (newS sc) = s) := by show _ = _; rw [SS.out]; exact Lo.step_end hv
            have NX := hide (next_over L1 c1 s _ wr J.out.p OKK.out.cb hv); have VP := hide (fun u c (q : LW u c L1 s) => verdict_any L1 c s _ u q OKK.out.cb); have VR := hide (fun u c (q : Rlo.RW u c L2 w1.heap.size s) => Rlo.rverdict_any L2 w1.heap.size c s u q); have SO := hide (fun u c (q : LW u c L1 s) => step_over L1 c s _ u q OKK.out.cb hv); have SR := hide (fun u c (q : Rlo.RW u c L2 w1.heap.size s) => Rlo.rstep_over L2 w1.heap.size c s u q hv); have htn := OKK.out.tn
            have HNC : Hid (s.cr.length ≤ 1000) := by have := INV.out.b.cl; show _ ≤ _; omega
            generalize verd s = V at VP VR hv
            have hv1 : (V == 0) = false := by simp [hv]
            have hv2 : (V != V) = false := by simp
            clear hv SS WBB INV OKK HLEN; go_wp2_with fail
            refine NX.out.mono ?_; rintro r w2 ⟨rfl, b2⟩; obtain ⟨d1, d2, j2, -, -, -⟩ := J.out.below (btr b2 (below_alloc w2 (.cells #[.int .i64 0, .int .i64 0, .int .i64 0, .slice none 0 0, .bool false] 44))); have J2 := hide j2; have VR2 := hide (VR.out _ d2 j2.r); clear b2 j2 NX J; go_wp2_with fail
            refine VR2.out.mono ?_; rintro r w3 ⟨rfl, b3⟩; obtain ⟨e1, e2, j3, -, -, -⟩ := J2.out.below b3; have J3 := hide j3; have VP3 := hide (VP.out _ e1 j3.p); clear b3 j3 VR2 J2; go_wp2_with fail
            refine VP3.out.mono ?_; rintro r w4 ⟨rfl, b4⟩; obtain ⟨f1, f2, j4, -, -, -⟩ := J3.out.below b4; have J4 := hide j4; have VR4 := hide (VR.out _ f2 j4.r); clear b4 j4 VP3 J3 VP; go_wp2_with fail
            refine VR4.out.mono ?_; rintro r w5 ⟨rfl, b5⟩; obtain ⟨g1, g2, j5, -, -, -⟩ := J4.out.below b5; have J5 := hide j5; have SO5 := hide (SO.out _ g1 j5.p); obtain ⟨C5, B5, FB5, hd5, pa5, pc5, oa5, oc5, bs5, Fs5, cs5, ta5, tc5, h5⟩ := j5.r; have y16 := cell_of h5.hp 16
            simp [Rlo.rcs] at y16
            clear b5 j5 h5 VR4 J4 VR SO; go_wp2_with fail
            refine SO5.out.mono ?_; rintro r w6 ⟨rfl, b6⟩; obtain ⟨k1, k2, j6, -, -, -⟩ := J5.out.below b6; have J6 := hide j6; have SR6 := hide (SR.out _ k2 j6.r); clear b6 j6 SO5 J5 SR y16; go_wp2_with fail
            refine SR6.out.mono ?_; rintro r w9 ⟨rfl, b9⟩; obtain ⟨m1, m2, j9, -, -, -⟩ := J6.out.below b9; have J9 := hide j9; obtain ⟨C, B, FB, hd, pa9, pc9, oa9, oc9, bs9, Fs9, cs9, ta, tc, h9⟩ := j9.r; have y16 : w9.cell? ⟨L2, 16, none⟩ = some (.slice ta s.tr.length tc) := cell_of h9.hp 16; have OT := hide h9.tr; obtain ⟨ma, mc, y6, yb⟩ := h9.crewRow; obtain ⟨nc, NCC⟩ : ∃ nc, Hid (s.cr.length = nc) := ⟨_, rfl⟩; rw [NCC.out] at yb
            have LEN := hide (fun u (q : Below w9.drew.heap.size w9.drew u) => by
              obtain ⟨x1, x2, jx, -⟩ := J9.out.below (btr (bdrew1 w9) q); have := len_any L1 x1 s u jx.p; rw [NCC.out] at this
              exact this)
            clear b9 j9 h9 SR6 J6; obtain ⟨s', HSS⟩ : ∃ s', Hid (s = s') := ⟨_, rfl⟩; rw [HSS.out] at J9 SE NCC HNC
            have hnc : nc ≤ 1000 := by have := HNC.out; rw [NCC.out] at this; exact this
            obtain ⟨oz, jj, dz, SL, HJJ⟩ : ∃ oz jj dz, Hid (∀ u, (Instr.sliceAt 28 (.slice ta s.tr.length tc) (some (.int .i64 (s.tr.length : Int))) none none).run Tryz.prog u = .ok (.slice oz jj dz) u) ∧ Hid (jj = 0) := ⟨_, _, _, fun u => Rlo.slice_at u ta s.tr.length tc s.tr.length (Nat.le_refl _), Nat.sub_self _⟩; have EVS := hide (events_same none oz [] 0 dz w9.drew (Lo.EsAt.nil _ _) (Lo.EsAt.nil _ _) (by simp)); simp only [List.length_nil] at EVS; have ej : jj = 0 := HJJ.out; subst ej; clear OT HJJ; have y16d : w9.drew.cell? ⟨L2, 16, none⟩ = some (.slice ta s.tr.length tc) := y16; have y6d : w9.drew.cell? ⟨L2, 6, none⟩ = some (.pointer (some ⟨B, 0, none⟩)) := y6; have ybd : w9.drew.cell? ⟨B, 0, none⟩ = some (.slice ma nc mc) := yb
            have ncc : ((nc : Int) != (nc : Int)) = false := by simp
            go_wp2_with fail
            refine wp_region_held_drew (S := fun w' => w'.cell? ⟨L2, 16, none⟩ = some (.slice ta s.tr.length tc) ∧ w'.cell? ⟨L2, 6, none⟩ = some (.pointer (some ⟨B, 0, none⟩)) ∧ w'.cell? ⟨B, 0, none⟩ = some (.slice ma nc mc)) (by kernel_rfl) ?_ (fun hHeld => ?_)
            · exact ⟨y16d, y6d, ybd⟩
            refine wpAnyH_take (i := 0) (v := ?_) rfl (by kernel_rfl) (by kernel_rfl) (by kernel_rfl) (fun _ _ _ h => h) (Or.inl ⟨by rfl, ?_⟩) (by assumption) ?_; rotate_left
            · intro w0 hSw; (try dsimp only at hSw); go_simp <;> with_reducible rfl
            try simp only [Act.put, zz1, zz2, zz4, zz5, zz6]
            refine wpAnyH_take (i := 1) (v := ?_) rfl (by kernel_rfl) (by kernel_rfl) (by kernel_rfl) (fun _ _ _ h => h) (Or.inl ⟨by rfl, ?_⟩) (by assumption) ?_; rotate_left
            · intro w0 hSw; (try dsimp only at hSw); go_simp <;> with_reducible rfl
            try simp only [Act.put, zz1, zz2, zz3, zz4, zz5, zz6]
            refine wpAnyH_take (i := 2) (v := ?_) rfl (by kernel_rfl) (by kernel_rfl) (by kernel_rfl) (fun _ _ _ h => h) (Or.inl ⟨by rfl, ?_⟩) (by assumption) ?_; rotate_left
            · intro w0 hSw; (try dsimp only at hSw); go_simp <;> with_reducible rfl
            try simp only [Act.put, zz1, zz2, zz3, zz4, zz5, zz6]
            refine wpAnyH_take (i := 3) (v := ?_) rfl (by kernel_rfl) (by kernel_rfl) (by kernel_rfl) (fun _ _ _ h => h) (Or.inl ⟨by rfl, ?_⟩) (by assumption) ?_; rotate_left
            · intro w0 hSw; (try dsimp only at hSw); go_simp <;> with_reducible rfl
            try simp only [Act.put, zz1, zz2, zz3, zz4, zz5, zz6]
            refine wpAnyH_take (i := 4) (v := ?_) rfl (by kernel_rfl) (by kernel_rfl) (by kernel_rfl) (fun _ _ _ h => h) (Or.inl ⟨by rfl, ?_⟩) (by assumption) ?_; rotate_left
            · intro w0 hSw; (try dsimp only at hSw); go_simp <;> with_reducible rfl
            try simp only [Act.put, zz1, zz2, zz3, zz4, zz5, zz6]
            refine wpAnyH_take (i := 5) (v := ?_) rfl (by kernel_rfl) (by kernel_rfl) (by kernel_rfl) (fun _ _ _ h => h) (Or.inl ⟨by rfl, ?_⟩) (by assumption) ?_; rotate_left
            · intro w0 hSw; (try dsimp only at hSw); go_simp <;> with_reducible rfl
            try simp only [Act.put, zz1, zz2, zz3, zz4, zz5, zz6]
            refine wpAnyH_take (i := 6) (v := .slice oz 0 dz) rfl (by kernel_rfl) (by kernel_rfl) (by kernel_rfl) (fun _ _ _ h => h) (Or.inl ⟨by rfl, ?_⟩) (by assumption) ?_
            · intro w0 hSw; refine Eq.trans (b := Sem.run Tryz.prog (Instr.sliceAt 28 (.slice ta s.tr.length tc) (some (.int .i64 (s.tr.length : Int))) none none >>= fun x => pure (Next.value x)) w0) (by kernel_rfl) ?_; rw [Sem.run_bind, SL.out w0]; rfl
            try simp only [Act.put, zz1, zz2, zz3, zz4, zz5, zz6]
            refine wpAnyH_ready (rs := [7]) (by kernel_rfl) (by simp) ?_; refine AllReadyH.cons rfl (fun K hK => ?_) AllReadyH.nil
            go_simp
            refine EVS.out.mono ?_; rintro r wa ⟨rfl, ba⟩; have y16a := Sh.cellB y16d ba; have y6a := Sh.cellB y6d ba; have yba := Sh.cellB ybd ba
            (try go_wp2_with fail)
            refine hK.out _ _ ?_ (fun hHeld => ?_)
            · exact ⟨y16a, y6a, yba⟩
            clear hK K
            try simp only [Act.put, zz1, zz2, zz3, zz4, zz5, zz6]
            refine wpAnyH_take (i := 8) (v := ?_) rfl (by kernel_rfl) (by kernel_rfl) (by kernel_rfl) (fun _ _ _ h => h) (Or.inl ⟨by rfl, ?_⟩) (by assumption) ?_; rotate_left
            · intro w0 hSw; (try dsimp only at hSw); go_simp <;> with_reducible rfl
            try simp only [Act.put, zz1, zz2, zz3, zz4, zz5, zz6]
            refine wpAnyH_take (i := 9) (v := ?_) rfl (by kernel_rfl) (by kernel_rfl) (by kernel_rfl) (fun _ _ _ h => h) (Or.inl ⟨by rfl, ?_⟩) (by assumption) ?_; rotate_left
            · intro w0 hSw; (try dsimp only at hSw); go_simp <;> with_reducible rfl
            try simp only [Act.put, zz1, zz2, zz3, zz4, zz5, zz6]
            refine wpAnyH_take (i := 10) (v := ?_) rfl (by kernel_rfl) (by kernel_rfl) (by kernel_rfl) (fun _ _ _ h => h) (Or.inl ⟨by rfl, ?_⟩) (by assumption) ?_; rotate_left
            · intro w0 hSw; (try dsimp only at hSw); go_simp <;> with_reducible rfl
            try simp only [Act.put, zz1, zz2, zz3, zz4, zz5, zz6]
            refine wpAnyH_take (i := 12) (v := ?_) rfl (by kernel_rfl) (by kernel_rfl) (by kernel_rfl) (fun _ _ _ h => h) (Or.inl ⟨by rfl, ?_⟩) (by assumption) ?_; rotate_left
            · intro w0 hSw; (try dsimp only at hSw); go_simp <;> with_reducible rfl
            try simp only [Act.put, zz1, zz2, zz3, zz4, zz5, zz6]
            refine wpAnyH_take (i := 13) (v := ?_) rfl (by kernel_rfl) (by kernel_rfl) (by kernel_rfl) (fun _ _ _ h => h) (Or.inl ⟨by rfl, ?_⟩) (by assumption) ?_; rotate_left
            · intro w0 hSw; (try dsimp only at hSw); go_simp <;> with_reducible rfl
            try simp only [Act.put, zz1, zz2, zz3, zz4, zz5, zz6]
            refine wpAnyH_take (i := 14) (v := ?_) rfl (by kernel_rfl) (by kernel_rfl) (by kernel_rfl) (fun _ _ _ h => h) (Or.inl ⟨by rfl, ?_⟩) (by assumption) ?_; rotate_left
            · intro w0 hSw; (try dsimp only at hSw); go_simp <;> with_reducible rfl
            try simp only [Act.put, zz1, zz2, zz3, zz4, zz5, zz6]
            refine wpAnyH_take (i := 15) (v := ?_) rfl (by kernel_rfl) (by kernel_rfl) (by kernel_rfl) (fun _ _ _ h => h) (Or.inl ⟨by rfl, ?_⟩) (by assumption) ?_; rotate_left
            · intro w0 hSw; (try dsimp only at hSw); go_simp <;> with_reducible rfl
            try simp only [Act.put, zz1, zz2, zz3, zz4, zz5, zz6]
            refine wpAnyH_take (i := 16) (v := ?_) rfl (by kernel_rfl) (by kernel_rfl) (by kernel_rfl) (fun _ _ _ h => h) (Or.inl ⟨by rfl, ?_⟩) (by assumption) ?_; rotate_left
            · intro w0 hSw; (try dsimp only at hSw); go_simp <;> with_reducible rfl
            try simp only [Act.put, zz1, zz2, zz3, zz4, zz5, zz6]
            refine wpAnyH_take (i := 17) (v := ?_) rfl (by kernel_rfl) (by kernel_rfl) (by kernel_rfl) (fun _ _ _ h => h) (Or.inl ⟨by rfl, ?_⟩) (by assumption) ?_; rotate_left
            · intro w0 hSw; (try dsimp only at hSw); go_simp <;> with_reducible rfl
            try simp only [Act.put, zz1, zz2, zz3, zz4, zz5, zz6]
            refine wpAnyH_take (i := 18) (v := ?_) rfl (by kernel_rfl) (by kernel_rfl) (by kernel_rfl) (fun _ _ _ h => h) (Or.inl ⟨by rfl, ?_⟩) (by assumption) ?_; rotate_left
            · intro w0 hSw; (try dsimp only at hSw); go_simp <;> with_reducible rfl
            try simp only [Act.put, zz1, zz2, zz3, zz4, zz5, zz6]
            refine wpAnyH_take (i := 19) (v := ?_) rfl (by kernel_rfl) (by kernel_rfl) (by kernel_rfl) (fun _ _ _ h => h) (Or.inl ⟨by rfl, ?_⟩) (by assumption) ?_; rotate_left
            · intro w0 hSw; (try dsimp only at hSw); go_simp <;> with_reducible rfl
            try simp only [Act.put, zz1, zz2, zz3, zz4, zz5, zz6]
            refine wpAnyH_ready (rs := [11]) (by kernel_rfl) (by simp) ?_; refine AllReadyH.cons rfl (fun K hK => ?_) AllReadyH.nil
            go_simp
            refine (LEN.out wa ba).mono ?_; rintro r wb ⟨rfl, rfl⟩
            (try go_wp2_with fail)
            refine hK.out _ _ ?_ (fun hHeld => ?_)
            · exact ⟨y16a, y6a, yba⟩
            clear hK K
            try simp only [Act.put, zz1, zz2, zz3, zz4, zz5, zz6]
            refine wpAnyH_take (i := 20) (v := ?_) rfl (by kernel_rfl) (by kernel_rfl) (by kernel_rfl) (fun _ _ _ h => h) (Or.inl ⟨by rfl, ?_⟩) (by assumption) ?_; rotate_left
            · intro w0 hSw; (try dsimp only at hSw); go_simp <;> with_reducible rfl
            try simp only [Act.put, zz1, zz2, zz3, zz4, zz5, zz6]
            refine wpAnyH_take (i := 21) (v := ?_) rfl (by kernel_rfl) (by kernel_rfl) (by kernel_rfl) (fun _ _ _ h => h) (Or.inl ⟨by rfl, ?_⟩) (by assumption) ?_; rotate_left
            · intro w0 hSw; (try dsimp only at hSw); go_simp <;> with_reducible rfl
            try simp only [Act.put, zz1, zz2, zz3, zz4, zz5, zz6]
            refine wpAnyH_done (by kernel_rfl) ?_ _; obtain ⟨f1, f2, j9, -, -, -⟩ := J9.out.below (btr (bdrew1 w9) ba); have J10 := hide j9; have STT := hide (fun (k : Nat) => state_any L1 f1 s' (k : Int) wb j9.p); obtain ⟨C9, B9, FB9, hd9, pa9, pc9, oa9, oc9, bs9, Fs9, cs9, ta9, tc9, h9⟩ := j9.r; have MT := hide (fun (k : Nat) (hk : k < s'.cr.length) => h9.mate hk); have y6b := y6a; have ybb := yba; clear h9 j9 EVS LEN J9 y16 y16d y16a y6 y6d y6a yb ybd yba ba; go_wp2_with fail
            go_loop [135] (fun kv => ∃ k : Nat, k ≤ nc ∧ kv = .int .i64 k) (fun kv => nc - (intOf kv).toNat)
            case atStart => exact ⟨0, Nat.zero_le _, rfl⟩
            case round =>
              obtain ⟨k, hk, rfl⟩ := hrel
              by_cases hkl : k < nc
              · have hkl' : (k : Int) < (nc : Int) := by omega
                have kk0 : (0 : Int) ≤ (k : Int) := by omega
                have STK := hide (STT.out k)
                have thr : Cr.thr s'.cr (k : Int) = true := by
                  unfold Cr.thr; rw [Cr.gt_nat, List.getElem?_eq_getElem (by rw [NCC.out]; exact hkl)]
                  rfl
                rw [thr] at STK; obtain ⟨mb2, mc2, z6, z0, zs⟩ := MT.out k (by rw [NCC.out]; exact hkl); rw [NCC.out] at z0
                have eB : B9 = B := by have h := z6.symm.trans y6b; simpa using h
                subst eB; have eM : Value.slice (some ⟨mb2, 0, none⟩) nc mc2 = Value.slice ma nc mc := Option.some.inj (z0.symm.trans ybb); injection eM with eM1 eM2 eM3; subst eM1; clear eM2 z6 z0; generalize (Cr.one0 (Cr.gt s'.cr (k : Int))).s = ss at STK zs
                have sss : (ss != ss) = false := by simp
                clear thr STT MT; go_wp2_with fail
                refine STK.out.mono ?_; rintro r wc ⟨rfl, rfl⟩; go_wp2_with fail
                go_round
                case rel => exact ⟨k + 1, by omega, by go_num⟩
                case measure => simp [intOf]; omega
              · have hkl' : ¬ ((k : Int) < (nc : Int)) := by omega
                go_wp2_with fail
                go_roundw
                case rel => exact ⟨n + 1, f1, f2, by omega, by go_num, by rw [SE.out]; exact J10.out⟩
                case measure => simp [intOf]; omega
        · have hlt' : ¬ ((n : Int) ≤ (pl.length : Int)) := by omega
          obtain ⟨k0, hk0, hinv, -⟩ := Inv.steps HSC.out n; have hn2 := hinv.n200 HSC.out; have hkn := kn_le hn2; have htn := hinv.b.bw.tn; clear hinv hk0; generalize stepsF n (newS sc) = s at *
          have TA := hide (fun u (q : Below wr.heap.size wr u) => by
            obtain ⟨e1, e2, je, -⟩ := J.out.below q
            exact trace_any L1 e1 s u je.p (by omega))
          obtain ⟨C, B, FB, q, pa2, pc2, oa, oc, bs, Fs, cs, ta, tc, h2⟩ := J.out.r; have y16 : wr.cell? ⟨L2, 16, none⟩ = some (.slice ta s.tr.length tc) := cell_of h2.hp 16; have L2H := hide h2.hp; obtain ⟨ob2, d2, eo, hE, -, -⟩ := own_es h2.tr; cases eo; have EE := hide hE; clear h2 hE; have EV := hide (fun u ob d (q : EsAt u ob s.tr) (q2 : Below wr.heap.size wr u) => events_same ob ta s.tr d tc u q (EE.out.below q2) (by omega)); go_wp2_with fail
          go_region_held3 (fun w' => w'.cell? ⟨L2, 16, none⟩ = some (.slice ta s.tr.length tc))
            (first | (go_keep; done) | (exact y16b) | (exact y16c) | (exact y16d))
            (first
              | (go_at_call 22; refine (TA.out _ (bdrew1 _)).mono ?_; rintro r w6 ⟨ob, d, rfl, e6, -, b6⟩; have hb6 := btr (bdrew1 wr) b6; have y16b : w6.cell? ⟨L2, 16, none⟩ = some (.slice ta s.tr.length tc) := cell_of (heap_below L2H.out hb6) 16)
              | (go_at_call 9; refine (EV.out _ ob d e6 hb6).mono ?_; rintro r w7 ⟨rfl, b7⟩; have hb7 := btr hb6 b7; have y16c : w7.cell? ⟨L2, 16, none⟩ = some (.slice ta s.tr.length tc) := cell_of (heap_below L2H.out hb7) 16)
              | (go_at_call 6; refine (hands_any _).mono ?_; rintro r w8 ⟨rfl, b8⟩; have hb8 := btr hb7 b8; have y16d : w8.cell? ⟨L2, 16, none⟩ = some (.slice ta s.tr.length tc) := cell_of (heap_below L2H.out hb8) 16))
          have BZ := hide (btr B1.out (btr J.out.bl hb8)); go_wp2_with fail
          go_ret
          exact ⟨rfl, BZ.out⟩

/-! ### the row -/
set_option maxRecDepth 100000 in
theorem lifted (os : Os) (started : os.Started) (H : Type) (enc : TypeId × Value → H) :
    ReturnsInHanded {} Tryz.checked os 4 .any (Rows.loomStepsSpec.pre6 enc Tryz.prog Tryz.f4 Rows.loomStepsRow.domain false) (Rows.loomStepsSpec.post enc Tryz.prog Tryz.f4 false true false false) := by
  refine returnsInHanded_of_change_sized (C := Tryz.checked) own started (by kernel_rfl) Tryz.func4
    (ChangeSpec.witness6 (enc := enc) (C := Tryz.checked) false ⟨#[], #[.agg #[.int .i64 0, .int .i64 0, .slice none 0 0, .slice none 0 0, .slice none 0 0]], []⟩ 8 (by kernel_rfl) (by kernel_rfl) (by kernel_rfl) (by kernel_rfl)) ?_
  intro W base args ds gs before hval0 hW hcnd hsz0 _
  have hval : ∀ (j : Nat) t v, Tryz.f4.params[j]? = some t → args[j]? = some v → Value.okWide Tryz.prog W .any base t v := hval0
  have hW' := hW
  obtain ⟨p, q, hA0, hV, rfl, hfz, hnd⟩ := hW
  have hA : DataW.TrodAll enc Tryz.prog W 0 (fun _ => true) true Tryz.f4.params.toList args.toList ds p := hA0
  rw [Tryz.params4] at hA hval
  have hsz : (DataW.weightsEach Tryz.prog (Tryz.f4.params.toList ++ Rows.loomStepsSpec.plain.varTypes Tryz.prog) (ds ++ gs)).all (· ≤ reachBytes) = true := hsz0
  clear hsz0
  rw [Tryz.params4] at hsz
  obtain ⟨v0, vs0, d0, ds0, p0, q0, hargs, rfl, rfl, h0, r0⟩ := trodAll_cons hA
  obtain ⟨rfl, rfl, rfl⟩ := trodAll_nil r0
  obtain rfl : args = #[v0] := by cases args; simp_all
  obtain ⟨rfl, rfl⟩ := trodVars_none hV
  have k0 := h0
  have lt0 : ∀ x ∈ p0, x.block < W.heap.size := by obtain ⟨m, hm⟩ := k0; exact DataW.trod_lt m _ _ _ hm
  have z0 : WL 25 d0 := fun m hm => by
    have := List.all_eq_true.1 hsz _ (DataW.weights_mem_each (j := 0) (t := 25) (d := d0) rfl rfl m hm)
    simpa using this
  obtain ⟨T0, M0, ps0, pl0, dr0, pa0, la0, da0, pc0, lc0, dc0, rfl, S0, H0⟩ := h0.elim fun _ hf => script_open hf z0
  clear hA0 hval0
  refine (core (w := W) T0 M0 ps0 pl0 dr0 pa0 la0 da0 pc0 lc0 dc0 S0 H0).mono fun e W' ⟨he, bel⟩ => ?_
  subst he
  exact ⟨_, rfl, _, _, _, [], _, [], hW', trodAll_mk1 (shut_bool Tryz.underlying4 _), (trodAll_cons_mk (Below.trod laidOut (by kernel_rfl) (of_decide_eq_true (by kernel_rfl)) k0 bel lt0) trodAll_mk0), rfl, bel.frame _, fun h => by cases h⟩

theorem over : Rows.loomStepsRow.holds Tryz.pinned (OpenSpec.ofChange Rows.loomStepsSpec) :=
  OpenClaim.holds_of_wide 4 Tryz.f4 rfl rfl rfl rfl rfl rfl rfl ⟨rfl, rfl, rfl, rfl, rfl⟩ rfl rfl rfl rfl rfl (by kernel_rfl) Tryz.func4 (by kernel_rfl)
    (of_decide_eq_true (by kernel_rfl)) (by unfold Func.isWrapper; first | (rw [if_pos (by decide +kernel)]; kernel_rfl) | (rw [if_neg (by decide +kernel)]; exact ⟨rfl, rfl⟩))
    (fun os started H enc _ => lifted os started H enc)

/-- the statement -/
theorem proved : Rows.LoomStepsSaid := over
#print axioms proved
end Go.Proofs.YtddchcekljndmaaGreat.loomSteps
