import Derived.Test.YtblfimobiibmjaaGreatZjAh19
import Derived.Test.YtblfimobiibmjaaGreatAxp
namespace Go.Proofs.YtblfimobiibmjaaGreat
open Go.ChangeShapes Go.WideShapes Go.ChangeAt Go.RowKit
namespace Ax
open En Gu Eg Ba
set_option maxRecDepth 100000 in
set_option maxHeartbeats 12800000 in
theorem settled_any (w : World) (N0 P R W b c g : Nat) (oa : Option Addr) (l : List Ev) (T : TW w N0 P R W b oa l) (tk : Tok l) (hl : l.length ≤ 100) (hg : g < there l) :
 Calls Tryz.prog 57 #[(.agg #[.pointer (some ⟨P, 0, none⟩), .slice oa l.length c, .slice (some ⟨b, 0, none⟩) l.length l.length]), .int .i64 (g : Int)] w fun r w' => r = .returned (.tuple #[.int .i64 (fr1 (setF (hA l) l (g : Int))), .bool (setF (hA l) l (g : Int)).isSome]) ∧ Below w.heap.size w w' := by
 have SO := hide (fun u (bb : Below w.heap.size w u) => scene_any oa l c u (T.es.below bb) tk (by omega))
 have KN := hide (fun (k : Nat) (hk : k < l.length) (hv : live l k = true) u (bb : Below w.heap.size w u) => knows_any u N0 P R W b oa l c k (g : Int) (T.below bb) tk (by omega) hk hv)
 have TL := Eg.there_le l
 have BX := hide (below_alloc w (.cells #[.pointer (some ⟨P, 0, none⟩), .slice oa l.length c, .slice (some ⟨b, 0, none⟩) l.length l.length] 83))
 have X0 := hide (heap_new w (.cells #[.pointer (some ⟨P, 0, none⟩), .slice oa l.length c, .slice (some ⟨b, 0, none⟩) l.length l.length] 83))
 cases hx : exF l (g : Int) l.length
 ·have SV : Hid (setF (hA l) l (g : Int) = none) := set_off hx
  rw [SV.out]
  have RD : Hid (∀ (u : World) N A M vs, SC u N A M (there l) (mkN l) (fun g => (latF l (g : Int) l.length).getD 0) (fun g => exF l (g : Int) l.length) (fun c => (inn l l.length (c : Int)).size) (rwK l l.length) vs → u.cell? ⟨A, g * 2 + 1, none⟩ = some (.bool false)) := by
   intro u N A M vs S
   have := (S.readG hg).2
   rw [hx] at this
   exact this
  obtain ⟨n, hn⟩ : ∃ n, l.length = n := ⟨_, rfl⟩
  obtain ⟨G, hG⟩ : ∃ G, there l = G := ⟨_, rfl⟩
  obtain ⟨C, hC⟩ : ∃ C, mkN l = C := ⟨_, rfl⟩
  rw [hn] at BX X0 SO ⊢
  rw [hn] at RD
  rw [hG, hC] at SO RD
  rw [hG] at hg TL
  have g0 : (0 : Int) ≤ (g : Int) := by omega
  have g1 : (g : Int) < (G : Int) := by omega
  clear T tk hn hG hC KN hx hl TL hg
  go_enter Tryz.func57, Tryz.ntmps57
  go_upto_region 1 with fail
  have SZ1 : Hid ((w.alloc (.cells #[.pointer (some ⟨P, 0, none⟩), .slice oa n c, .slice (some ⟨b, 0, none⟩) n n] 83)).heap.size = w.heap.size + 1) := World.size_alloc ..
  generalize w.alloc (.cells #[.pointer (some ⟨P, 0, none⟩), .slice oa n c, .slice (some ⟨b, 0, none⟩) n n] 83) = w1 at *
  have B2 := hide (btr BX.out (below_alloc w1 (.cells #[.int .i64 (g : Int)] 3)))
  have X1 := hide (heap_below X0.out (below_alloc w1 (.cells #[.int .i64 (g : Int)] 3)))
  have Y1 := hide (heap_new w1 (.cells #[.int .i64 (g : Int)] 3))
  rw [SZ1.out] at Y1
  generalize w1.alloc (.cells #[.int .i64 (g : Int)] 3) = w2 at *
  have s1 : w2.cell? ⟨w.heap.size, 1, none⟩ = some (.slice oa n c) := cell_of X1.out 1
  go_wp2_with fail
  refine (SO.out w2 B2.out).mono ?_
  rintro r w3 ⟨N, A, M, rfl, ⟨vs, S3⟩, -, -, -, b3⟩
  have B3 := hide (btr B2.out (btr b3 (below_alloc w3 (.cells #[.slice (some ⟨A, 0, none⟩) G G, .slice (some ⟨M, 0, none⟩) C C] 145))))
  have Z3 := hide (heap_new w3 (.cells #[.slice (some ⟨A, 0, none⟩) G G, .slice (some ⟨M, 0, none⟩) C C] 145))
  have r1 := RD.out _ _ _ _ _ (S3.below (below_alloc w3 (.cells #[.slice (some ⟨A, 0, none⟩) G G, .slice (some ⟨M, 0, none⟩) C C] 145)))
  have Y3 := hide (heap_below Y1.out (btr b3 (below_alloc w3 (.cells #[.slice (some ⟨A, 0, none⟩) G G, .slice (some ⟨M, 0, none⟩) C C] 145))))
  clear b3 S3 s1 SO RD
  go_upto_region 2 with fail
  generalize w3.alloc (.cells #[.slice (some ⟨A, 0, none⟩) G G, .slice (some ⟨M, 0, none⟩) C C] 145) = w4 at *
  have z0 : w4.cell? ⟨w3.heap.size, 0, none⟩ = some (.slice (some ⟨A, 0, none⟩) G G) := cell_of Z3.out 0
  have y0 : w4.cell? ⟨w.heap.size + 1, 0, none⟩ = some (.int .i64 (g : Int)) := cell_of Y3.out 0
  go_wp2_with fail
  go_ret2
  exact ⟨rfl, B3.out⟩
 ·have SP := hide (set_prog (A := hA l) hx)
  have LI := hide (fun y (hy : y < there l) => liv_some tk hx hy)
  have HO := hide (fun x (h : x ∈ heldP l) => held_ok tk h)
  have TT := hide T
  have TK := hide tk
  have KNS := hide (fun n => knl_succ (hA l) l (g : Int) n)
  have KNL := hide (fun n => kn_len (hA l) l (g : Int) n)
  have KNB := hide (fun k => kn_bound l k (g : Int) hl)
  have RD : Hid (∀ (u : World) N A M vs, SC u N A M (there l) (mkN l) (fun g => (latF l (g : Int) l.length).getD 0) (fun g => exF l (g : Int) l.length) (fun c => (inn l l.length (c : Int)).size) (rwK l l.length) vs → ∀ y, y < there l → u.cell? ⟨A, y * 2, none⟩ = some (.int .i64 (((latF l (y : Int) l.length).getD 0 : Nat) : Int)) ∧ u.cell? ⟨A, y * 2 + 1, none⟩ = some (.bool (exF l (y : Int) l.length))) := fun u N A M vs S y hy => S.readG hy
  have HE := hide (fun (u : World) N A M vs (S : SC u N A M (there l) (mkN l) (fun g => (latF l (g : Int) l.length).getD 0) (fun g => exF l (g : Int) l.length) (fun c => (inn l l.length (c : Int)).size) (rwK l l.length) vs) (bb : Below w.heap.size w u) => theld_any (c := c) N0 (T.below bb) tk hl S (fun y hy => by
   obtain ⟨p, h1, h2, -⟩ := LI.out y hy
   exact ⟨p, h1, h2⟩))
  have HX := hide hx
  obtain ⟨n, hn⟩ : ∃ n, l.length = n := ⟨_, rfl⟩
  obtain ⟨G, hG⟩ : ∃ G, there l = G := ⟨_, rfl⟩
  obtain ⟨C, hC⟩ : ∃ C, mkN l = C := ⟨_, rfl⟩
  have HN := hide hn
  have HG := hide hG
  have HC := hide hC
  rw [hn] at BX X0 SO KN LI HE HO hl ⊢
  rw [hn] at RD
  rw [hG] at SP LI
  rw [hG, hC] at SO RD HE
  rw [hG] at hg TL
  rw [hn] at TL
  have g0 : (0 : Int) ≤ (g : Int) := by omega
  have g1 : (g : Int) < (G : Int) := by omega
  clear T tk hn hG hC hx
  go_enter Tryz.func57, Tryz.ntmps57
  go_upto_region 1 with fail
  have SZ1 : Hid ((w.alloc (.cells #[.pointer (some ⟨P, 0, none⟩), .slice oa n c, .slice (some ⟨b, 0, none⟩) n n] 83)).heap.size = w.heap.size + 1) := World.size_alloc ..
  generalize w.alloc (.cells #[.pointer (some ⟨P, 0, none⟩), .slice oa n c, .slice (some ⟨b, 0, none⟩) n n] 83) = w1 at *
  have B2 := hide (btr BX.out (below_alloc w1 (.cells #[.int .i64 (g : Int)] 3)))
  have X1 := hide (heap_below X0.out (below_alloc w1 (.cells #[.int .i64 (g : Int)] 3)))
  have Y1 := hide (heap_new w1 (.cells #[.int .i64 (g : Int)] 3))
  rw [SZ1.out] at Y1
  generalize w1.alloc (.cells #[.int .i64 (g : Int)] 3) = w2 at *
  have s1 : w2.cell? ⟨w.heap.size, 1, none⟩ = some (.slice oa n c) := cell_of X1.out 1
  go_wp2_with fail
  refine (SO.out w2 B2.out).mono ?_
  rintro r w3 ⟨N, A, M, rfl, ⟨vs, S3⟩, -, -, -, b3⟩
  have b4 := btr b3 (below_alloc w3 (.cells #[.slice (some ⟨A, 0, none⟩) G G, .slice (some ⟨M, 0, none⟩) C C] 145))
  have B4 := hide (btr B2.out b4)
  have Z4 := hide (heap_new w3 (.cells #[.slice (some ⟨A, 0, none⟩) G G, .slice (some ⟨M, 0, none⟩) C C] 145))
  have S4 := hide (S3.below (below_alloc w3 (.cells #[.slice (some ⟨A, 0, none⟩) G G, .slice (some ⟨M, 0, none⟩) C C] 145)))
  have X4 := hide (heap_below X1.out b4)
  have Y4 := hide (heap_below Y1.out b4)
  clear b3 b4 S3 s1 SO X1 Y1 B2 BX X0
  go_upto_region 2 with fail
  generalize w3.alloc (.cells #[.slice (some ⟨A, 0, none⟩) G G, .slice (some ⟨M, 0, none⟩) C C] 145) = w4 at *
  generalize w3.heap.size = Q at *
  generalize hE : w.heap.size + 1 = E at *
  have z0 : w4.cell? ⟨Q, 0, none⟩ = some (.slice (some ⟨A, 0, none⟩) G G) := cell_of Z4.out 0
  have y0 : w4.cell? ⟨E, 0, none⟩ = some (.int .i64 (g : Int)) := cell_of Y4.out 0
  have r1 := (RD.out _ _ _ _ _ S4.out g (by first | exact hg | (rw [HG.out]; exact hg))).2
  rw [show exF l (g : Int) n = true by rw [← HN.out]; exact HX.out] at r1
  go_upto_region 6 with fail
  clear z0 y0 r1
  go_loopw [7, 25] (fun sv iv wr => ∃ k : Nat, k ≤ G ∧ iv = .int .i64 (k : Int) ∧ Rn wr w4.heap.size sv (knL (hA l) l (g : Int) k) ∧ Below w4.heap.size w4 wr) (fun _ iv _ => G - (intOf iv).toNat)
  case atStart => exact ⟨0, Nat.zero_le _, rfl, Rn.nil _ _, Below.refl _ _⟩
  case round =>
   obtain ⟨k, hk, rfl, o1, b1⟩ := hrel
   have O1 := hide o1
   have B1 := hide b1
   obtain ⟨a1, c1, rfl, -, -⟩ := o1.sl
   have KL := KNL.out k
   by_cases hlt : k < G
   ·have hlt' : (k : Int) < (G : Int) := by omega
    have k0 : (0 : Int) ≤ (k : Int) := by omega
    obtain ⟨r0, r1⟩ := RD.out _ _ _ _ _ (S4.out.below b1) k hlt
    obtain ⟨m, hm⟩ : ∃ m, (knL (hA l) l (g : Int) k).length = m := ⟨_, rfl⟩
    have HM := hide hm
    rw [hm] at KL ⊢
    obtain ⟨p, hp, hpn, hpl⟩ := LI.out k hlt
    rw [hp] at r0
    simp only [Option.getD_some] at r0
    have HP := hide hp
    have NX := hide (KNS.out k)
    rw [show latF l (k : Int) l.length = some p by rw [HN.out]; exact hp, HN.out] at NX
    cases hq : exF l (k : Int) n
    ·rw [hq] at r1 NX
     obtain ⟨z, hz⟩ : ∃ z, knF (hA l) l p (g : Int) = z := ⟨_, rfl⟩
     have K2 := hide (KN.out p hpn hpl)
     have N2 : Hid (knL (hA l) l (g : Int) (k + 1) = knL (hA l) l (g : Int) k ++ [z]) := by
      show _ = _
      rw [NX.out, ← hz]
      rfl
     rw [hz] at K2
     have ZB : z ≤ 1000 := by rw [← hz]; exact KNB.out p
     clear o1 b1 hm hlt hp hz hq NX hpn hpl
     go_upto_region 8 with fail
     have BG := hide (below_alloc wr (.cells #[.int .i64 (p : Int), .bool false] 148))
     have XG := hide (heap_new wr (.cells #[.int .i64 (p : Int), .bool false] 148))
     have B5 := hide (btr B1.out BG.out)
     have O5 := hide (O1.out.below BG.out)
     generalize wr.alloc (.cells #[.int .i64 (p : Int), .bool false] 148) = w5 at *
     have X5 := heap_below X4.out B5.out
     have Y5 := heap_below Y4.out B5.out
     have t0 : w5.cell? ⟨w.heap.size, 0, none⟩ = some (.pointer (some ⟨P, 0, none⟩)) := cell_of X5 0
     have t1 : w5.cell? ⟨w.heap.size, 1, none⟩ = some (.slice oa n c) := cell_of X5 1
     have t2 : w5.cell? ⟨w.heap.size, 2, none⟩ = some (.slice (some ⟨b, 0, none⟩) n n) := cell_of X5 2
     have y0 : w5.cell? ⟨E, 0, none⟩ = some (.int .i64 (g : Int)) := cell_of Y5 0
     have x0 : w5.cell? ⟨wr.heap.size, 0, none⟩ = some (.int .i64 (p : Int)) := cell_of XG.out 0
     have x1 : w5.cell? ⟨wr.heap.size, 1, none⟩ = some (.bool false) := cell_of XG.out 1
     clear X5 Y5 r0 r1 XG BG
     go_wp2_with fail
     refine (K2.out w5 (btr B4.out B5.out)).mono ?_
     rintro r w6 ⟨rfl, b6⟩
     obtain ⟨ea, ce, w7, hap, o7, b7⟩ := app_one (O5.out.below b6) z (by rw [HM.out]; omega) (by have := B5.out.size; have := b6.size; omega)
     have O7 := hide o7
     have B7 := hide ((btr B5.out b6).trans b7)
     rw [HM.out] at hap O7
     clear o7 b7 b6 t0 t1 t2 y0 x0 x1 O5 K2
     go_wp2_with (at_builtin; refine Lib.wpList_append_run _ (by rfl) _ _ _ _ (by rfl) _ _ (by rfl) (by rfl) _ _ hap ?_)
     go_roundw
     case measure => simp [intOf]; omega
     case rel => exact ⟨k + 1, by omega, by simp, by rw [N2.out]; exact O7.out, B7.out⟩
    ·rw [hq] at r1 NX
     have N2 : Hid (knL (hA l) l (g : Int) (k + 1) = knL (hA l) l (g : Int) k) := by
      show _ = _
      rw [NX.out]
      simp
     clear o1 b1 hm hlt hp hq NX hpn hpl
     go_wp2_with fail
     go_roundw
     case measure => simp [intOf]; omega
     case rel => exact ⟨k + 1, by omega, by simp, by rw [N2.out]; have q := O1.out.below (below_alloc wr (.cells #[.int .i64 (p : Int), .bool true] 148)); rw [HM.out] at q; exact q, btr B1.out (below_alloc _ _)⟩
   ·obtain rfl : k = G := by omega
    obtain ⟨Ls, hLs⟩ : ∃ Ls, knL (hA l) l (g : Int) k = Ls := ⟨_, rfl⟩
    rw [hLs] at SP O1 KL ⊢
    clear o1 b1 hlt hLs
    cases Ls with
    | nil =>
      have SP' : Hid (setF (hA l) l (g : Int) = none) := SP.out
      go_wp2_with fail
      go_ret2
      exact ⟨by rw [SP'.out]; rfl, btr B4.out B1.out⟩
    | cons x xs =>
      have SP' : Hid (setF (hA l) l (g : Int) = if xs.foldl min x = xs.foldl max x ∧ more (hA l) l (g : Int) x = false then some x else none) := SP.out
      obtain ⟨m, hm⟩ : ∃ m, (x :: xs).length = m := ⟨_, rfl⟩
      have HM := hide hm
      have m0 : ((m : Int) == 0) = false := by rw [← hm, List.length_cons]; simp; omega
      have m1 : (0 : Int) < (m : Int) := by rw [← hm, List.length_cons]; omega
      have xl : xs.length ≤ 100000 := by rw [List.length_cons] at KL; omega
      have MI := hide (fun (u : World) (bb : Below wr.heap.size wr u) => min_n w4.heap.size _ x xs u (O1.out.below bb) xl)
      have MA := hide (fun (u : World) (bb : Below wr.heap.size wr u) => max_n w4.heap.size _ x xs u (O1.out.below bb) xl)
      obtain ⟨g0, rfl, c0⟩ := O1.out.cell (k := 0) (x := x) rfl
      obtain ⟨mn, hmn⟩ : ∃ y, xs.foldl min x = y := ⟨_, rfl⟩
      obtain ⟨mx, hmx⟩ : ∃ y, xs.foldl max x = y := ⟨_, rfl⟩
      rw [hm, hmn] at MI
      rw [hm, hmx] at MA
      rw [hmn, hmx] at SP'
      rw [hm]
      clear SP KL xl hm hmn hmx
      by_cases q : mn = mx
      ·subst q
       have ne : ((mn : Int) != (mn : Int)) = false := by simp
       go_wp2_with fail
       refine (MI.out wr (Below.refl _ _)).mono ?_
       rintro r w6 ⟨rfl, b6⟩
       have B6 := hide b6
       clear b6
       go_wp2_with fail
       refine (MA.out w6 B6.out).mono ?_
       rintro r w7 ⟨rfl, b7⟩
       have B7 := hide (btr B6.out b7)
       have c0' := Mx.cellB c0 B7.out
       clear b7 c0
       go_upto_region 14 with fail
       have BF := hide (below_alloc w7 (.cells #[.int .i64 (x : Int)] 3))
       have B8 := hide (btr B1.out (btr B7.out BF.out))
       have XF := hide (heap_new w7 (.cells #[.int .i64 (x : Int)] 3))
       generalize w7.alloc (.cells #[.int .i64 (x : Int)] 3) = w8 at *
       generalize w7.heap.size = F at *
       have X8 := hide (heap_below X4.out B8.out)
       have Y8 := hide (heap_below Y4.out B8.out)
       have Z8 := hide (heap_below Z4.out B8.out)
       have BW := hide (btr B4.out B8.out)
       have H8 := hide (HE.out w8 N A M vs (S4.out.below B8.out) BW.out)
       have t0 : w8.cell? ⟨w.heap.size, 0, none⟩ = some (.pointer (some ⟨P, 0, none⟩)) := cell_of X8.out 0
       have t1 : w8.cell? ⟨w.heap.size, 1, none⟩ = some (.slice oa n c) := cell_of X8.out 1
       have t2 : w8.cell? ⟨w.heap.size, 2, none⟩ = some (.slice (some ⟨b, 0, none⟩) n n) := cell_of X8.out 2
       have z0 : w8.cell? ⟨Q, 0, none⟩ = some (.slice (some ⟨A, 0, none⟩) k k) := cell_of Z8.out 0
       have z1 : w8.cell? ⟨Q, 1, none⟩ = some (.slice (some ⟨M, 0, none⟩) C C) := cell_of Z8.out 1
       clear c0' MI MA
       go_wp2_with fail
       refine H8.out.mono ?_
       rintro r w9 ⟨v, rfl, o9, b9⟩
       have X9 := hide (heap_below X8.out b9)
       have Y9 := hide (heap_below Y8.out b9)
       have F9 := hide (heap_below XF.out b9)
       have B9 := hide (btr BW.out b9)
       have CT := hide (contains_n 95 #[.pointer (some ⟨w.heap.size, 0, none⟩), .pointer (some ⟨E, 0, none⟩), .pointer (some ⟨F, 0, none⟩)] (fun a u => by kernel_rfl) (fun y => decide (x < knF (hA l) l y (g : Int))) _ v (heldP l) w9 o9 (by have := held_len l (by rw [HN.out]; omega); omega) (fun W' bb y hy => by
        obtain ⟨h1, h2⟩ := HO.out y hy
        exact set1_any W' N0 P R W b w.heap.size E F oa l c y x (g : Int) (TT.out.below (btr B9.out bb)) TK.out (by rw [HN.out]; omega) (by rw [HN.out]; exact h1) h2 (by rw [HN.out]; exact heap_below X9.out bb) (cell_of (heap_below Y9.out bb) 0) (cell_of (heap_below F9.out bb) 0)))
       rw [more_is] at CT
       obtain ⟨oe, ce, rfl, -, -⟩ := o9.sl
       have f9 : w9.cell? ⟨F, 0, none⟩ = some (.int .i64 (x : Int)) := cell_of F9.out 0
       clear t0 t1 t2 z0 z1 H8 b9 o9
       cases hmo : more (hA l) l (g : Int) x
       ·have HMO := hide hmo
        rw [hmo] at CT
        clear hmo
        go_wp2_with fail
        refine CT.out.mono ?_
        rintro r w10 ⟨rfl, b10⟩
        have B10 := hide (btr B9.out b10)
        have f10 := Mx.cellB f9 b10
        clear b10 f9
        go_wp2_with fail
        go_ret2
        exact ⟨by rw [SP'.out, if_pos (by first | exact ⟨rfl, HMO.out⟩ | exact ⟨trivial, HMO.out⟩ | simp [HMO.out])]; rfl, B10.out⟩
       ·have HMO := hide hmo
        rw [hmo] at CT
        clear hmo
        go_wp2_with fail
        refine CT.out.mono ?_
        rintro r w10 ⟨rfl, b10⟩
        have B10 := hide (btr B9.out b10)
        clear b10 f9
        go_wp2_with fail
        go_ret2
        exact ⟨by rw [SP'.out, if_neg (fun z => by rw [HMO.out] at z; cases z.2)]; rfl, B10.out⟩
      ·have ne : ((mn : Int) != (mx : Int)) = true := by simp; omega
       have QN := hide q
       clear q
       go_wp2_with fail
       refine (MI.out wr (Below.refl _ _)).mono ?_
       rintro r w6 ⟨rfl, b6⟩
       have B6 := hide b6
       clear b6
       go_wp2_with fail
       refine (MA.out w6 B6.out).mono ?_
       rintro r w7 ⟨rfl, b7⟩
       have B7 := hide (btr B6.out b7)
       clear b7 c0
       go_wp2_with fail
       go_ret2
       exact ⟨by rw [SP'.out, if_neg (fun z => QN.out z.1)]; rfl, btr B4.out (btr B1.out B7.out)⟩
end Ax
end Go.Proofs.YtblfimobiibmjaaGreat
