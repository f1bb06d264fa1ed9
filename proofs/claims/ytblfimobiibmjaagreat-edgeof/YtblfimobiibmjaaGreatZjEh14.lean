import Derived.Test.YtblfimobiibmjaaGreatZjEh13
import Derived.Shelf.Strings.BuilderK
import Derived.Deep.DeepCutAuto
import Derived.Deep.RegionWith
import Derived.Lib.Slices
import Derived.Deep.RegionHeld3
import Derived.SizedLaws
namespace Go.Proofs.YtblfimobiibmjaaGreat
open Go.ChangeShapes Go.WideShapes Go.ChangeAt Go.RowKit
namespace Lo
open Ba
theorem kn_le {n : Nat} (h : n ≤ 200) : 2 * n * n + 2 * n ≤ 80400 := by
 have : n * n ≤ 200 * 200 := Nat.mul_le_mul h h
 have e : 2 * n * n = 2 * (n * n) := Nat.mul_assoc 2 n n
 omega
theorem Inv.n200 {sc : Sh.Sc} {n : Nat} {s : Lm} (h : Sh.schk sc = 0) (i : Inv sc n s) : n ≤ 200 := by
 have := i.le
 have := (schk_ok h).2.2.1
 omega
theorem Inv.ok {sc : Sh.Sc} {n : Nat} {s : Lm} (h : Sh.schk sc = 0) (i : Inv sc n s) : Ok (2 * n * n + 2 * n) s := by
 have hn := i.n200 h
 refine ⟨i.b.bw.cb, i.b.bw.tn, fun k st e => ?_, fun k st e b => ?_, ?_, i.d⟩
 ·have := i.b.sb k st e
  omega
 ·have := i.b.sb k st e
  unfold _root_.Go.Proofs.YtblfimobiibmjaaGreat.Pi.own
  split <;> omega
 ·have := i.b.md
  omega
end Lo
end Go.Proofs.YtblfimobiibmjaaGreat
namespace Go.Proofs.YtblfimobiibmjaaGreat
open Go.ChangeShapes Go.WideShapes Go.ChangeAt Go.RowKit
namespace Rlo
open Ba Lo
set_option maxRecDepth 100000 in
set_option maxHeartbeats 1600000 in
theorem rstep_over (L N : Nat) (col : Nat → Nat) (s : Lm) (w : World) (h : RW w col L N s) (hv : verd s ≠ 0) :
 Calls Tryz.prog 60 #[.pointer (some ⟨L, 0, none⟩)] w fun r w' => r = .returned (.bool false) ∧ Below w.heap.size w w' := by
 have VD := hide (rverdict_any L N col s w h)
 have hv' : (verd s != 0) = true := by simp [hv]
 generalize verd s = v at VD hv'
 clear h
 go_enter Tryz.func60, Tryz.ntmps60
 go_wp2_with fail
 refine VD.out.mono ?_
 rintro r w1 ⟨rfl, b1⟩
 have B1 := hide b1
 clear b1
 go_wp2_with fail
 go_ret
 exact ⟨rfl, B1.out⟩
set_option maxRecDepth 100000 in
set_option maxHeartbeats 1600000 in
theorem rstep_comp (L N : Nat) (col : Nat → Nat) (s : Lm) (w : World) (h : RW w col L N s) (hv : verd s = 0) (hl : 0 < s.p.length) (ht : nth s.p 0 = -1) (htr : s.tr.length ≤ 1000000) :
 Calls Tryz.prog 60 #[.pointer (some ⟨L, 0, none⟩)] w fun r w' => r = .returned (.bool true) ∧ ∃ col', RW w' col' L N (tellS { s with p := s.p.tail } (bareE 13 (-1))) ∧ Tq col col' w w' := by
 have VD := hide (rverdict_any L N col s w h)
 rw [hv] at VD
 have H := hide h
 clear h
 go_enter Tryz.func60, Tryz.ntmps60
 go_wp2_with fail
 refine VD.out.mono ?_
 rintro r w1 ⟨rfl, b1⟩
 obtain ⟨col1, h1, t1, -⟩ := H.out.below b1
 have T1 := hide t1
 have WH := hide (rwho_comp L N col1 s w1 h1 hl ht)
 have H1 := hide h1
 clear b1 h1 t1 VD
 go_wp2_with fail
 refine WH.out.mono ?_
 rintro r w2 ⟨rfl, b2⟩
 obtain ⟨col2, h2, t2, -⟩ := H1.out.below b2
 obtain ⟨C, B, FB, hd, pa, pc, oa, oc, bs, Fs, cs, ta, tc, h2⟩ := h2
 have T2 := hide (T1.out.trans t2)
 have y5 := cell_of h2.hp 5
 simp [rcs] at y5
 have NX := hide (Pk.rnext_any C N s.p s.d w2 h2.cu h2.nc)
 have H2 := hide h2
 clear b2 h2 t2 WH
 go_wp2_with fail
 refine NX.out.mono ?_
 rintro r w3 ⟨rfl, cu3, kb3⟩
 obtain ⟨col3, h3, t3⟩ := H2.out.cursor cu3 kb3
 have T3 := hide (T2.out.trans t3)
 have H3 := hide h3
 clear cu3 kb3 h3 t3 NX y5
 go_wp2_with fail
 refine (bare_r 13 (-1) _).mono ?_
 rintro r w4 ⟨rfl, b4⟩
 unfold En.evv En.evc bareE
 obtain ⟨col4, h4, t4, -⟩ := H3.out.below b4
 have T4 := hide (T3.out.trans t4)
 have NO := hide (note_any L N col4 _ (bareE 13 (-1)) w4 h4.lw htr)
 unfold En.evv En.evc at NO
 simp only [bareE] at NO
 clear b4 h4 t4
 go_wp2_with fail
 refine NO.out.mono ?_
 rintro r w5 ⟨rfl, col5, h5, t5⟩
 have H5 := hide h5
 have T5 := hide (T4.out.trans t5)
 clear h5 t5 NO
 go_wp2_with fail
 go_ret
 exact ⟨rfl, col5, H5.out, T5.out⟩
set_option maxRecDepth 100000 in
set_option maxHeartbeats 6400000 in
theorem rstep_op (L N : Nat) (col : Nat → Nat) (s : Lm) (K k p q : Nat) (xs n : Int) (w : World) (h : RW w col L N s) (ok : Ok K s) (hK : K ≤ 90000) (hv : verd s = 0) (hl : 0 < s.p.length) (ht : 0 ≤ nth s.p 0) (hA : 0 < (Cr.abl s.cr).length) (hm : (Cr.abl s.cr).length ≤ 1000)
 (hw : whoN s = (k : Int)) (hx : s.cr[k]? = some ⟨p, q, xs⟩) (hpl : p < s.ps.length) (ho : De.chk (opOf s (k : Int)) n = 0) (wb : WB s) (R : Lm) (hR : R = doF { s with p := s.p.tail } (k : Int) (opOf s (k : Int))) :
 Calls Tryz.prog 60 #[.pointer (some ⟨L, 0, none⟩)] w fun r w' => r = .returned (.bool true) ∧ ∃ col', RW w' col' L N R ∧ Tq col col' w w' := by
 have VD := hide (rverdict_any L N col s w h)
 rw [hv] at VD
 have H := hide h
 have OK : Hid (Ok K { s with p := s.p.tail }) := ⟨ok.cb, ok.tn, ok.sm, ok.wl, ok.md, ok.dd⟩
 have WBH : Hid (WB { s with p := s.p.tail }) := wb
 have HR := hide hR
 have HO := hide ho
 have HL := hide (And.intro hl (And.intro ht (And.intro hA hm)))
 have HW := hide hw
 have HX := hide hx
 have k0 : ¬ ((k : Int) < 0) := by omega
 have hoe : opOf { s with p := s.p.tail } (k : Int) = opOf s (k : Int) := rfl
 have RO := hide (fun (c : Nat → Nat) (u : World) (z : RW u c L N { s with p := s.p.tail }) => rop_any L N c { s with p := s.p.tail } k p q xs u z hx hpl)
 rw [hoe] at RO
 generalize opOf s (k : Int) = o at *
 clear h ok hR ho hl ht hA hm hw hx wb hoe
 unfold opV at RO
 go_enter Tryz.func60, Tryz.ntmps60
 go_wp2_with fail
 refine VD.out.mono ?_
 rintro r w1 ⟨rfl, b1⟩
 obtain ⟨col1, h1, t1, -⟩ := H.out.below b1
 have T1 := hide t1
 have WH := hide (rwho_go L N col1 s w1 h1 HL.out.1 HL.out.2.1 HL.out.2.2.1 HL.out.2.2.2)
 rw [HW.out] at WH
 have H1 := hide h1
 clear b1 h1 t1 VD
 go_wp2_with fail
 refine WH.out.mono ?_
 rintro r w2 ⟨rfl, b2⟩
 obtain ⟨col2, h2, t2, -⟩ := H1.out.below b2
 obtain ⟨C, B, FB, hd, pa, pc, oa, oc0, bs, Fs, cs0, ta, tc, h2⟩ := h2
 have T2 := hide (T1.out.trans t2)
 have y5 := cell_of h2.hp 5
 simp [rcs] at y5
 have NX := hide (Pk.rnext_any C N s.p s.d w2 h2.cu h2.nc)
 have H2 := hide h2
 clear b2 h2 t2 WH
 go_wp2_with fail
 refine NX.out.mono ?_
 rintro r w3 ⟨rfl, cu3, kb3⟩
 obtain ⟨col3, h3, t3⟩ := H2.out.cursor cu3 kb3
 have T3 := hide (T2.out.trans t3)
 have RO3 := hide (RO.out col3 w3 h3.lw)
 have H3 := hide h3
 clear cu3 kb3 h3 t3 NX y5 RO H1 H2 T1 T2
 go_wp2_with fail
 refine RO3.out.mono ?_
 rintro r w4 ⟨oc, cc, rfl, ca4, nb4, b4⟩
 obtain ⟨kind, a, b, cs, df⟩ := o
 simp only at ca4 nb4 ⊢
 obtain ⟨col5, h5, t5, -⟩ := H3.out.below (btr b4 (below_alloc w4 (.cells #[.int .i64 kind, .int .i64 a, .int .i64 b, .slice oc cs.length cc, .bool df] 64)))
 have T5 := hide (T3.out.trans t5)
 have CA := hide (ca4.below (below_alloc w4 (.cells #[.int .i64 kind, .int .i64 a, .int .i64 b, .slice oc cs.length cc, .bool df] 64)))
 have NB := hide nb4
 obtain ⟨-, hk, h4, ha, hb, -, hcs⟩ := op_ok HO.out
 simp only at hk h4 ha hb hcs
 have HCS := hide hcs
 have H5 := hide h5.lw
 clear ca4 nb4 b4 h5 t5 RO3 H3 T3 HL HW HX HO hcs
 rcases (show kind = 1 ∨ kind = 2 ∨ kind = 3 ∨ kind = 4 ∨ kind = 5 ∨ kind = 6 ∨ kind = 7 ∨ kind = 8 ∨ kind = 9 by omega) with rfl | rfl | rfl | rfl | rfl | rfl | rfl | rfl | rfl
 ·have CL := hide (other_spawn L N col5 { s with p := s.p.tail } K (k : Int) a b oc cs.length cc df _ H5.out OK.out (by omega))
  have RE : Hid (R = goS { s with p := s.p.tail, cr := Cr.spL s.cr a } ⟨1, (k : Int), -1, -1, a, Cr.spV s.cr a, false, false⟩) := by
   show _ = _
   rw [HR.out]
   rfl
  rw [← RE.out] at CL
  clear hk ha hb HR RE
  go_wp2_with fail
  refine CL.out.mono ?_
  rintro r w6 ⟨rfl, col6, h6, t6⟩
  have H6 := hide h6
  have T6 := hide (T5.out.trans t6)
  clear h6 t6 CL
  go_wp2_with fail
  go_ret
  exact ⟨rfl, col6, H6.out, T6.out⟩
 ·simp [De.mA, De.mB] at ha hb
  obtain ⟨ka, rfl⟩ : ∃ ka : Nat, a = (ka : Int) := ⟨a.toNat, by omega⟩
  obtain ⟨kb, rfl⟩ : ∃ kb : Nat, b = (kb : Int) := ⟨b.toNat, by omega⟩
  have CL := hide (other_make L N col5 { s with p := s.p.tail } K (k : Int) ka kb (by omega) (by omega) oc cs.length cc df _ H5.out OK.out (by omega))
  have RE : Hid (R = goS (opensS { s with p := s.p.tail } ka kb) ⟨2, (k : Int), s.md, -1, kb, -1, false, false⟩) := by
   show _ = _
   rw [HR.out]
   rfl
  rw [← RE.out] at CL
  clear hk ha hb HR RE
  go_wp2_with fail
  refine CL.out.mono ?_
  rintro r w6 ⟨rfl, col6, h6, t6⟩
  have H6 := hide h6
  have T6 := hide (T5.out.trans t6)
  clear h6 t6 CL
  go_wp2_with fail
  go_ret
  exact ⟨rfl, col6, H6.out, T6.out⟩
 ·simp [De.mA] at ha
  obtain ⟨ka, rfl⟩ : ∃ ka : Nat, a = (ka : Int) := ⟨a.toNat, by omega⟩
  have CL := hide (alone_r L N col5 { s with p := s.p.tail } K (k : Int) true ka b _ H5.out OK.out (by omega) (by omega))
  have RE : Hid (R = aloneR { s with p := s.p.tail } (k : Int) ⟨true, ka, b⟩) := by
   show _ = _
   rw [HR.out]
   rw [alone_is]
   rfl
  rw [← RE.out] at CL
  clear hk ha hb HR RE
  go_wp2_with fail
  refine CL.out.mono ?_
  rintro r w6 ⟨rfl, col6, h6, t6⟩
  have H6 := hide h6
  have T6 := hide (T5.out.trans t6)
  clear h6 t6 CL
  go_wp2_with fail
  go_ret
  exact ⟨rfl, col6, H6.out, T6.out⟩
 ·simp [De.mA] at ha
  obtain ⟨ka, rfl⟩ : ∃ ka : Nat, a = (ka : Int) := ⟨a.toNat, by omega⟩
  have CL := hide (alone_r L N col5 { s with p := s.p.tail } K (k : Int) false ka 0 _ H5.out OK.out (by omega) (by omega))
  have RE : Hid (R = aloneR { s with p := s.p.tail } (k : Int) ⟨false, ka, 0⟩) := by
   show _ = _
   rw [HR.out]
   rw [alone_is, alone_fine _ _ _ rfl]
   rfl
  rw [← RE.out] at CL
  clear hk ha hb HR RE
  go_wp2_with fail
  refine CL.out.mono ?_
  rintro r w6 ⟨rfl, col6, h6, t6⟩
  have H6 := hide h6
  have T6 := hide (T5.out.trans t6)
  clear h6 t6 CL
  go_wp2_with fail
  go_ret
  exact ⟨rfl, col6, H6.out, T6.out⟩
 ·simp [De.mA] at ha
  obtain ⟨ka, rfl⟩ : ∃ ka : Nat, a = (ka : Int) := ⟨a.toNat, by omega⟩
  have CL := hide (shut_any L N col5 { s with p := s.p.tail } K (k : Int) ka _ H5.out OK.out hK (by omega) (by omega) WBH.out)
  have RE : Hid (R = shutR { s with p := s.p.tail } (k : Int) ka) := by
   show _ = _
   rw [HR.out]
   rfl
  rw [← RE.out] at CL
  clear hk ha hb HR RE
  go_wp2_with fail
  refine CL.out.mono ?_
  rintro r w6 ⟨rfl, col6, h6, t6⟩
  have H6 := hide h6
  have T6 := hide (T5.out.trans t6)
  clear h6 t6 CL
  go_wp2_with fail
  go_ret
  exact ⟨rfl, col6, H6.out, T6.out⟩
 ·have CL := hide (choose_r L N col5 { s with p := s.p.tail } K (k : Int) 6 a b cs df oc cc _ H5.out OK.out (by omega) CA.out NB.out h4 (fun c hc => (HCS.out c hc).1))
  have RE : Hid (R = chooseR { s with p := s.p.tail } (k : Int) ⟨6, a, b, cs, df⟩) := by
   show _ = _
   rw [HR.out]
   rw [choose_is _ _ _ h4 OK.out.dd]
   rfl
  rw [← RE.out] at CL
  clear hk ha hb HR RE
  go_wp2_with fail
  refine CL.out.mono ?_
  rintro r w6 ⟨rfl, col6, h6, t6⟩
  have H6 := hide h6
  have T6 := hide (T5.out.trans t6)
  clear h6 t6 CL
  go_wp2_with fail
  go_ret
  exact ⟨rfl, col6, H6.out, T6.out⟩
 ·have CL := hide (other_read L N col5 { s with p := s.p.tail } K (k : Int) a b oc cs.length cc df _ H5.out OK.out (by omega))
  have RE : Hid (R = goS { s with p := s.p.tail } ⟨9, (k : Int), -1, -1, a, -1, false, false⟩) := by
   show _ = _
   rw [HR.out]
   rfl
  rw [← RE.out] at CL
  clear hk ha hb HR RE
  go_wp2_with fail
  refine CL.out.mono ?_
  rintro r w6 ⟨rfl, col6, h6, t6⟩
  have H6 := hide h6
  have T6 := hide (T5.out.trans t6)
  clear h6 t6 CL
  go_wp2_with fail
  go_ret
  exact ⟨rfl, col6, H6.out, T6.out⟩
 ·have CL := hide (other_write L N col5 { s with p := s.p.tail } K (k : Int) a b oc cs.length cc df _ H5.out OK.out (by omega))
  have RE : Hid (R = goS { s with p := s.p.tail } ⟨10, (k : Int), -1, -1, a, -1, false, false⟩) := by
   show _ = _
   rw [HR.out]
   rfl
  rw [← RE.out] at CL
  clear hk ha hb HR RE
  go_wp2_with fail
  refine CL.out.mono ?_
  rintro r w6 ⟨rfl, col6, h6, t6⟩
  have H6 := hide h6
  have T6 := hide (T5.out.trans t6)
  clear h6 t6 CL
  go_wp2_with fail
  go_ret
  exact ⟨rfl, col6, H6.out, T6.out⟩
 ·have CL := hide (other_exit L N col5 { s with p := s.p.tail } K (k : Int) a b oc cs.length cc df _ H5.out OK.out (by omega))
  have RE : Hid (R = tellS { s with p := s.p.tail, cr := Cr.chL s.cr (k : Int) 0 2 0 } (bareE 11 (k : Int))) := by
   show _ = _
   rw [HR.out]
   rfl
  rw [← RE.out] at CL
  clear hk ha hb HR RE
  go_wp2_with fail
  refine CL.out.mono ?_
  rintro r w6 ⟨rfl, col6, h6, t6⟩
  have H6 := hide h6
  have T6 := hide (T5.out.trans t6)
  clear h6 t6 CL
  go_wp2_with fail
  go_ret
  exact ⟨rfl, col6, H6.out, T6.out⟩
theorem abl_len (l : List Mb) : ∀ j, (Cr.ablF j l).length ≤ l.length := by
 induction l with
 | nil => intro j; simp [Cr.ablF]
 | cons y l ih =>
   intro j
   unfold Cr.ablF
   have := ih (j + 1)
   split <;> simp <;> omega
theorem rstep_any (L N : Nat) (col : Nat → Nat) (sc : Sh.Sc) (n : Nat) (s : Lm) (w : World) (h : RW w col L N s) (hs : Sh.schk sc = 0) (i : Inv sc n s) (wb : WB s) (hv : verd s = 0) :
 Calls Tryz.prog 60 #[.pointer (some ⟨L, 0, none⟩)] w fun r w' => r = .returned (.bool true) ∧ ∃ col', RW w' col' L N (stepF s) ∧ Tq col col' w w' := by
 have hn := i.n200 hs
 have hk := kn_le hn
 have ok := i.ok hs
 obtain ⟨h1, h2, h3, h4, h5, h6, h7⟩ := schk_ok hs
 have hpl : 0 < s.p.length := by
  rcases Nat.eq_zero_or_pos s.p.length with z | z
  ·exfalso
   unfold verd at hv
   rw [if_pos z] at hv
   split at hv
   ·omega
   ·split at hv <;> omega
  ·exact z
 by_cases ht : nth s.p 0 = -1
 ·have e : stepF s = tellS { s with p := s.p.tail } (bareE 13 (-1)) := by
   unfold stepF
   rw [if_neg (by omega), if_pos ht]
  rw [e]
  exact rstep_comp L N col s w h hv hpl ht (by have := ok.tn; omega)
 ·have e : stepF s = doF { s with p := s.p.tail } (whoN s) (opOf s (whoN s)) := by
   unfold stepF
   rw [if_neg (by omega), if_neg ht]
  have ht0 : 0 ≤ nth s.p 0 := by
   have hm : nth s.p 0 ∈ sc.pl := by
    rw [nth_lt _ _ hpl]
    have hsub : ∀ x ∈ s.p, x ∈ sc.pl := fun x hx => by
     rw [i.p] at hx
     exact List.mem_of_mem_drop hx
    exact hsub _ (List.getElem_mem hpl)
   have := h6 _ hm
   omega
  obtain ⟨k, y, hwk, hky, hy0⟩ := who_ok hv ht0
  have hym := List.mem_of_getElem? hky
  have hyp := i.b.cp y hym
  have hyq := i.b.bw.cb y hym
  have hA : 0 < (Cr.abl s.cr).length := by
   apply abl_pos
   unfold Cr.hasS
   rw [List.any_eq_true]
   exact ⟨y, hym, by simp [hy0]⟩
  have hm : (Cr.abl s.cr).length ≤ 1000 := by
   have e1 : (Cr.abl s.cr).length ≤ s.cr.length := abl_len s.cr 0
   have e2 := i.b.cl
   omega
  rw [hwk] at e
  obtain ⟨yp, yq, ys⟩ := y
  simp only at hyp hyq
  obtain ⟨p, rfl⟩ : ∃ p : Nat, yp = (p : Int) := ⟨yp.toNat, by omega⟩
  obtain ⟨q, rfl⟩ : ∃ q : Nat, yq = (q : Int) := ⟨yq.toNat, by omega⟩
  exact rstep_op L N col s _ k p q ys sc.ps.length w h ok (by omega) hv hpl ht0 hA hm hwk hky (by rw [i.ps]; omega) (op_chk hs i _) wb _ e
end Rlo
end Go.Proofs.YtblfimobiibmjaaGreat
namespace Go.Proofs.YtblfimobiibmjaaGreat
open Go.ChangeShapes Go.WideShapes Go.ChangeAt Go.RowKit
open Go.Shelf
namespace Sh
open De Ba Re
end Sh
end Go.Proofs.YtblfimobiibmjaaGreat
namespace Go.Proofs.YtblfimobiibmjaaGreat
open Go.ChangeShapes Go.WideShapes Go.ChangeAt Go.RowKit
namespace Sh
open De Ba Re
end Sh
end Go.Proofs.YtblfimobiibmjaaGreat
namespace Go.Proofs.YtblfimobiibmjaaGreat
open Go.ChangeShapes Go.WideShapes Go.ChangeAt Go.RowKit
namespace Sh
open De Ba Re
end Sh
end Go.Proofs.YtblfimobiibmjaaGreat
namespace Go.Proofs.YtblfimobiibmjaaGreat
open Go.ChangeShapes Go.WideShapes Go.ChangeAt Go.RowKit
namespace Sh
open De Ba Re
end Sh
end Go.Proofs.YtblfimobiibmjaaGreat
namespace Go.Proofs.YtblfimobiibmjaaGreat
open Go.ChangeShapes Go.WideShapes Go.ChangeAt Go.RowKit
namespace Sh
open De Ba Re
end Sh
end Go.Proofs.YtblfimobiibmjaaGreat
namespace Go.Proofs.YtblfimobiibmjaaGreat
open Go.ChangeShapes Go.WideShapes Go.ChangeAt Go.RowKit
namespace Sh
open De Ba Re
end Sh
end Go.Proofs.YtblfimobiibmjaaGreat
namespace Go.Proofs.YtblfimobiibmjaaGreat
open Go.ChangeShapes Go.WideShapes Go.ChangeAt Go.RowKit
namespace Sh
open De Ba Re
end Sh
end Go.Proofs.YtblfimobiibmjaaGreat
namespace Go.Proofs.YtblfimobiibmjaaGreat
open Go.ChangeShapes Go.WideShapes Go.ChangeAt Go.RowKit
namespace Sh
open De Ba Re
end Sh
end Go.Proofs.YtblfimobiibmjaaGreat
namespace Go.Proofs.YtblfimobiibmjaaGreat
open Go.ChangeShapes Go.WideShapes Go.ChangeAt Go.RowKit
namespace Sh
open De Ba Re
end Sh
end Go.Proofs.YtblfimobiibmjaaGreat
namespace Go.Proofs.YtblfimobiibmjaaGreat
open Go.ChangeShapes Go.WideShapes Go.ChangeAt Go.RowKit
namespace Sh
open De Ba Re
end Sh
end Go.Proofs.YtblfimobiibmjaaGreat
namespace Go.Proofs.YtblfimobiibmjaaGreat
open Go.ChangeShapes Go.WideShapes Go.ChangeAt Go.RowKit
namespace Sh
open De Ba Re
end Sh
end Go.Proofs.YtblfimobiibmjaaGreat
namespace Go.Proofs.YtblfimobiibmjaaGreat
open Go.ChangeShapes Go.WideShapes Go.ChangeAt Go.RowKit
namespace Sh
open De Ba Re
end Sh
end Go.Proofs.YtblfimobiibmjaaGreat
namespace Go.Proofs.YtblfimobiibmjaaGreat
open Go.ChangeShapes Go.WideShapes Go.ChangeAt Go.RowKit
namespace Sh
open De Ba Re
end Sh
end Go.Proofs.YtblfimobiibmjaaGreat
namespace Go.Proofs.YtblfimobiibmjaaGreat
open Go.ChangeShapes Go.WideShapes Go.ChangeAt Go.RowKit
namespace Sh
open De Ba Re
end Sh
end Go.Proofs.YtblfimobiibmjaaGreat
namespace Go.Proofs.YtblfimobiibmjaaGreat
open Go.ChangeShapes Go.WideShapes Go.ChangeAt Go.RowKit
namespace Sh
open De Ba Re
end Sh
end Go.Proofs.YtblfimobiibmjaaGreat
namespace Go.Proofs.YtblfimobiibmjaaGreat
open Go.ChangeShapes Go.WideShapes Go.ChangeAt Go.RowKit
namespace Sh
open De Ba Re
section
variable {H : Type} {enc : TypeId × Value → H} {w : World}
end
end Sh
end Go.Proofs.YtblfimobiibmjaaGreat
namespace Go.Proofs.YtblfimobiibmjaaGreat
open Go.ChangeShapes Go.WideShapes Go.ChangeAt Go.RowKit
namespace Sh
open De Ba Re
end Sh
end Go.Proofs.YtblfimobiibmjaaGreat
namespace Go.Proofs.YtblfimobiibmjaaGreat
open Go.ChangeShapes Go.WideShapes Go.ChangeAt Go.RowKit
namespace Sh
open De Ba Re
end Sh
end Go.Proofs.YtblfimobiibmjaaGreat
namespace Go.Proofs.YtblfimobiibmjaaGreat
open Go.ChangeShapes Go.WideShapes Go.ChangeAt Go.RowKit
namespace De
open Ba Re
theorem row_1 (w : World) :
 Calls Tryz.prog 167 #[.int .i64 1] w fun r w' => r = .returned (.string (bs [112, 46])) ∧ Below w.heap.size w w' := by
 show Calls Tryz.prog 167 #[.int .i64 1] w fun r w' => r = .returned (.string ⟨#[112, 46]⟩) ∧ Below w.heap.size w w'
 go_enter Tryz.func167, Tryz.ntmps167
 go_wp2
 go_ret
 exact ⟨rfl, below_alloc _ _⟩
theorem row_2 (w : World) :
 Calls Tryz.prog 167 #[.int .i64 2] w fun r w' => r = .returned (.string (bs [99, 109])) ∧ Below w.heap.size w w' := by
 show Calls Tryz.prog 167 #[.int .i64 2] w fun r w' => r = .returned (.string ⟨#[99, 109]⟩) ∧ Below w.heap.size w w'
 go_enter Tryz.func167, Tryz.ntmps167
 go_wp2
 go_ret
 exact ⟨rfl, below_alloc _ _⟩
theorem row_3 (w : World) :
 Calls Tryz.prog 167 #[.int .i64 3] w fun r w' => r = .returned (.string (bs [99, 118])) ∧ Below w.heap.size w w' := by
 show Calls Tryz.prog 167 #[.int .i64 3] w fun r w' => r = .returned (.string ⟨#[99, 118]⟩) ∧ Below w.heap.size w w'
 go_enter Tryz.func167, Tryz.ntmps167
 go_wp2
 go_ret
 exact ⟨rfl, below_alloc _ _⟩
theorem row_4 (w : World) :
 Calls Tryz.prog 167 #[.int .i64 4] w fun r w' => r = .returned (.string (bs [99, 46])) ∧ Below w.heap.size w w' := by
 show Calls Tryz.prog 167 #[.int .i64 4] w fun r w' => r = .returned (.string ⟨#[99, 46]⟩) ∧ Below w.heap.size w w'
 go_enter Tryz.func167, Tryz.ntmps167
 go_wp2
 go_ret
 exact ⟨rfl, below_alloc _ _⟩
theorem row_5 (w : World) :
 Calls Tryz.prog 167 #[.int .i64 5] w fun r w' => r = .returned (.string (bs [99, 46])) ∧ Below w.heap.size w w' := by
 show Calls Tryz.prog 167 #[.int .i64 5] w fun r w' => r = .returned (.string ⟨#[99, 46]⟩) ∧ Below w.heap.size w w'
 go_enter Tryz.func167, Tryz.ntmps167
 go_wp2
 go_ret
 exact ⟨rfl, below_alloc _ _⟩
theorem row_6 (w : World) :
 Calls Tryz.prog 167 #[.int .i64 6] w fun r w' => r = .returned (.string (bs [46, 46])) ∧ Below w.heap.size w w' := by
 show Calls Tryz.prog 167 #[.int .i64 6] w fun r w' => r = .returned (.string ⟨#[46, 46]⟩) ∧ Below w.heap.size w w'
 go_enter Tryz.func167, Tryz.ntmps167
 go_wp2
 go_ret
 exact ⟨rfl, below_alloc _ _⟩
theorem row_7 (w : World) :
 Calls Tryz.prog 167 #[.int .i64 7] w fun r w' => r = .returned (.string (bs [120, 46])) ∧ Below w.heap.size w w' := by
 show Calls Tryz.prog 167 #[.int .i64 7] w fun r w' => r = .returned (.string ⟨#[120, 46]⟩) ∧ Below w.heap.size w w'
 go_enter Tryz.func167, Tryz.ntmps167
 go_wp2
 go_ret
 exact ⟨rfl, below_alloc _ _⟩
theorem row_8 (w : World) :
 Calls Tryz.prog 167 #[.int .i64 8] w fun r w' => r = .returned (.string (bs [120, 46])) ∧ Below w.heap.size w w' := by
 show Calls Tryz.prog 167 #[.int .i64 8] w fun r w' => r = .returned (.string ⟨#[120, 46]⟩) ∧ Below w.heap.size w w'
 go_enter Tryz.func167, Tryz.ntmps167
 go_wp2
 go_ret
 exact ⟨rfl, below_alloc _ _⟩
theorem row_9 (w : World) :
 Calls Tryz.prog 167 #[.int .i64 9] w fun r w' => r = .returned (.string (bs [46, 46])) ∧ Below w.heap.size w w' := by
 show Calls Tryz.prog 167 #[.int .i64 9] w fun r w' => r = .returned (.string ⟨#[46, 46]⟩) ∧ Below w.heap.size w w'
 go_enter Tryz.func167, Tryz.ntmps167
 go_wp2
 go_ret
 exact ⟨rfl, below_alloc _ _⟩
theorem within_p (n p : Int) (w : World) :
 Calls Tryz.prog 168 #[.int .i64 n, .int .u8 112, .int .i64 p] w fun r w' => r = .returned (.bool (decide (0 ≤ n) && decide (n < p))) ∧ w' = w := by
 by_cases h1 : 0 ≤ n
 ·have e : (decide (0 ≤ n) && decide (n < p)) = decide (n < p) := by simp [h1]
  rw [e]
  clear e
  go_enter Tryz.func168, Tryz.ntmps168
  go_wp2
  go_ret
  exact ⟨rfl, rfl⟩
 ·have e : (decide (0 ≤ n) && decide (n < p)) = false := by simp [h1]
  rw [e]
  clear e
  go_enter Tryz.func168, Tryz.ntmps168
  go_wp2
  go_ret
  exact ⟨rfl, rfl⟩
theorem within_c (n p : Int) (w : World) :
 Calls Tryz.prog 168 #[.int .i64 n, .int .u8 99, .int .i64 p] w fun r w' => r = .returned (.bool (decide (0 ≤ n) && decide (n < 8))) ∧ w' = w := by
 by_cases h1 : 0 ≤ n
 ·have e : (decide (0 ≤ n) && decide (n < 8)) = decide (n < 8) := by simp [h1]
  rw [e]
  clear e
  go_enter Tryz.func168, Tryz.ntmps168
  go_wp2
  go_ret
  exact ⟨rfl, rfl⟩
 ·have e : (decide (0 ≤ n) && decide (n < 8)) = false := by simp [h1]
  rw [e]
  clear e
  go_enter Tryz.func168, Tryz.ntmps168
  go_wp2
  go_ret
  exact ⟨rfl, rfl⟩
theorem within_x (n p : Int) (w : World) :
 Calls Tryz.prog 168 #[.int .i64 n, .int .u8 120, .int .i64 p] w fun r w' => r = .returned (.bool (decide (0 ≤ n) && decide (n < 8))) ∧ w' = w := by
 by_cases h1 : 0 ≤ n
 ·have e : (decide (0 ≤ n) && decide (n < 8)) = decide (n < 8) := by simp [h1]
  rw [e]
  clear e
  go_enter Tryz.func168, Tryz.ntmps168
  go_wp2
  go_ret
  exact ⟨rfl, rfl⟩
 ·have e : (decide (0 ≤ n) && decide (n < 8)) = false := by simp [h1]
  rw [e]
  clear e
  go_enter Tryz.func168, Tryz.ntmps168
  go_wp2
  go_ret
  exact ⟨rfl, rfl⟩
theorem within_m (n p : Int) (w : World) :
 Calls Tryz.prog 168 #[.int .i64 n, .int .u8 109, .int .i64 p] w fun r w' => r = .returned (.bool (decide (0 ≤ n) && decide (n ≤ 4))) ∧ w' = w := by
 by_cases h1 : 0 ≤ n
 ·have e : (decide (0 ≤ n) && decide (n ≤ 4)) = decide (n ≤ 4) := by simp [h1]
  rw [e]
  clear e
  go_enter Tryz.func168, Tryz.ntmps168
  go_wp2
  go_ret
  exact ⟨rfl, rfl⟩
 ·have e : (decide (0 ≤ n) && decide (n ≤ 4)) = false := by simp [h1]
  rw [e]
  clear e
  go_enter Tryz.func168, Tryz.ntmps168
  go_wp2
  go_ret
  exact ⟨rfl, rfl⟩
theorem within_v (n p : Int) (w : World) :
 Calls Tryz.prog 168 #[.int .i64 n, .int .u8 118, .int .i64 p] w fun r w' => r = .returned (.bool (decide (0 ≤ n) && decide (n ≤ 99))) ∧ w' = w := by
 by_cases h1 : 0 ≤ n
 ·have e : (decide (0 ≤ n) && decide (n ≤ 99)) = decide (n ≤ 99) := by simp [h1]
  rw [e]
  clear e
  go_enter Tryz.func168, Tryz.ntmps168
  go_wp2
  go_ret
  exact ⟨rfl, rfl⟩
 ·have e : (decide (0 ≤ n) && decide (n ≤ 99)) = false := by simp [h1]
  rw [e]
  clear e
  go_enter Tryz.func168, Tryz.ntmps168
  go_wp2
  go_ret
  exact ⟨rfl, rfl⟩
theorem within_d (n p : Int) (w : World) :
 Calls Tryz.prog 168 #[.int .i64 n, .int .u8 46, .int .i64 p] w fun r w' => r = .returned (.bool (n == 0)) ∧ w' = w := by
 go_enter Tryz.func168, Tryz.ntmps168
 go_wp2
 go_ret
 exact ⟨rfl, rfl⟩
def sA (k : Int) : Nat := if k = 1 then 112 else if k = 2 ∨ k = 3 ∨ k = 4 ∨ k = 5 then 99 else if k = 7 ∨ k = 8 then 120 else 46
def sB (k : Int) : Nat := if k = 2 then 109 else if k = 3 then 118 else 46
theorem row_any (k : Int) (h1 : 1 ≤ k) (h2 : k ≤ 9) (w : World) :
 Calls Tryz.prog 167 #[.int .i64 k] w fun r w' => r = .returned (.string (bs [sA k, sB k])) ∧ Below w.heap.size w w' := by
 rcases kind_cases h1 h2 with rfl | rfl | rfl | rfl | rfl | rfl | rfl | rfl | rfl
 ·exact row_1 w
 ·exact row_2 w
 ·exact row_3 w
 ·exact row_4 w
 ·exact row_5 w
 ·exact row_6 w
 ·exact row_7 w
 ·exact row_8 w
 ·exact row_9 w
theorem withinA (k n p : Int) (h1 : 1 ≤ k) (h2 : k ≤ 9) (w : World) :
 Calls Tryz.prog 168 #[.int .i64 n, .int .u8 (sA k : Int), .int .i64 p] w fun r w' => r = .returned (.bool (upB n (mA k p))) ∧ w' = w := by
 rcases kind_cases h1 h2 with rfl | rfl | rfl | rfl | rfl | rfl | rfl | rfl | rfl
 ·have e : upB n (mA 1 p) = (decide (0 ≤ n) && decide (n < p)) := by
   simp only [upB, mA, if_true]
   congr 1
   exact decide_eq_decide.2 (by omega)
  rw [e]
  exact within_p n p w
 ·have e : upB n (mA 2 p) = (decide (0 ≤ n) && decide (n < 8)) := by
   have : mA 2 p = 7 := rfl
   simp only [upB, this]
   congr 1
   exact decide_eq_decide.2 (by omega)
  rw [e]
  exact within_c n p w
 ·have e : upB n (mA 3 p) = (decide (0 ≤ n) && decide (n < 8)) := by
   have : mA 3 p = 7 := rfl
   simp only [upB, this]
   congr 1
   exact decide_eq_decide.2 (by omega)
  rw [e]
  exact within_c n p w
 ·have e : upB n (mA 4 p) = (decide (0 ≤ n) && decide (n < 8)) := by
   have : mA 4 p = 7 := rfl
   simp only [upB, this]
   congr 1
   exact decide_eq_decide.2 (by omega)
  rw [e]
  exact within_c n p w
 ·have e : upB n (mA 5 p) = (decide (0 ≤ n) && decide (n < 8)) := by
   have : mA 5 p = 7 := rfl
   simp only [upB, this]
   congr 1
   exact decide_eq_decide.2 (by omega)
  rw [e]
  exact within_c n p w
 ·have e : upB n (mA 6 p) = (n == 0) := by
   have : mA 6 p = 0 := rfl
   rw [Bool.eq_iff_iff, upB_iff, this]
   simp
   omega
  rw [e]
  exact within_d n p w
 ·have e : upB n (mA 7 p) = (decide (0 ≤ n) && decide (n < 8)) := by
   have : mA 7 p = 7 := rfl
   simp only [upB, this]
   congr 1
   exact decide_eq_decide.2 (by omega)
  rw [e]
  exact within_x n p w
 ·have e : upB n (mA 8 p) = (decide (0 ≤ n) && decide (n < 8)) := by
   have : mA 8 p = 7 := rfl
   simp only [upB, this]
   congr 1
   exact decide_eq_decide.2 (by omega)
  rw [e]
  exact within_x n p w
 ·have e : upB n (mA 9 p) = (n == 0) := by
   have : mA 9 p = 0 := rfl
   rw [Bool.eq_iff_iff, upB_iff, this]
   simp
   omega
  rw [e]
  exact within_d n p w
theorem withinB (k n p : Int) (h1 : 1 ≤ k) (h2 : k ≤ 9) (w : World) :
 Calls Tryz.prog 168 #[.int .i64 n, .int .u8 (sB k : Int), .int .i64 p] w fun r w' => r = .returned (.bool (upB n (mB k))) ∧ w' = w := by
 rcases kind_cases h1 h2 with rfl | rfl | rfl | rfl | rfl | rfl | rfl | rfl | rfl
 ·have e : upB n (mB 1) = (n == 0) := by
   have : mB 1 = 0 := rfl
   rw [Bool.eq_iff_iff, upB_iff, this]
   simp
   omega
  rw [e]
  exact within_d n p w
 ·exact within_m n p w
 ·exact within_v n p w
 ·have e : upB n (mB 4) = (n == 0) := by
   have : mB 4 = 0 := rfl
   rw [Bool.eq_iff_iff, upB_iff, this]
   simp
   omega
  rw [e]
  exact within_d n p w
 ·have e : upB n (mB 5) = (n == 0) := by
   have : mB 5 = 0 := rfl
   rw [Bool.eq_iff_iff, upB_iff, this]
   simp
   omega
  rw [e]
  exact within_d n p w
 ·have e : upB n (mB 6) = (n == 0) := by
   have : mB 6 = 0 := rfl
   rw [Bool.eq_iff_iff, upB_iff, this]
   simp
   omega
  rw [e]
  exact within_d n p w
 ·have e : upB n (mB 7) = (n == 0) := by
   have : mB 7 = 0 := rfl
   rw [Bool.eq_iff_iff, upB_iff, this]
   simp
   omega
  rw [e]
  exact within_d n p w
 ·have e : upB n (mB 8) = (n == 0) := by
   have : mB 8 = 0 := rfl
   rw [Bool.eq_iff_iff, upB_iff, this]
   simp
   omega
  rw [e]
  exact within_d n p w
 ·have e : upB n (mB 9) = (n == 0) := by
   have : mB 9 = 0 := rfl
   rw [Bool.eq_iff_iff, upB_iff, this]
   simp
   omega
  rw [e]
  exact within_d n p w
end De
end Go.Proofs.YtblfimobiibmjaaGreat
