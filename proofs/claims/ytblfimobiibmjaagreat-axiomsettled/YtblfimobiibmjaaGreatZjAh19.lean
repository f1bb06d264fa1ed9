import Derived.Test.YtblfimobiibmjaaGreatZjAh18
import Derived.Deep.Slices
import Derived.ShutString
import Derived.ChangeOld
namespace Go.Proofs.YtblfimobiibmjaaGreat
open Go.ChangeShapes Go.WideShapes Go.ChangeAt Go.RowKit
namespace Eg
open En Gu Ba
def mt (l : List Ev) (sz : Nat) (S R : List Nat) (x : Ed) (k : Nat) : Prop := ∃ q, R[k]? = some q ∧ ((x.r = 3 ∧ ∃ p, S[k]? = some p ∧ x = ⟨bg l p, q, 3⟩) ∨ ∃ p, S[k + sz]? = some p ∧ x = ⟨bg l q, p, if sz = 0 then 5 else 6⟩)
open Classical in
noncomputable def crB (l : List Ev) (c : Int) (x : Ed) : Bool := decide (0 ≤ c ∧ isC l c x)
theorem crB_iff {l : List Ev} {c : Int} {x : Ed} : crB l c x = true ↔ 0 ≤ c ∧ isC l c x := by
 unfold crB
 simp
set_option maxRecDepth 100000 in
set_option maxHeartbeats 12800000 in
theorem crosses_any (oa : Option Addr) (l : List Ev) (cp : Nat) (x : Ed) (w : World) (hA : EsAt w oa l) (h : Tok l) (hl : l.length ≤ 2000) (b : Ev) (hb : l[x.t]? = some b) :
 Calls Tryz.prog 80 #[.slice oa l.length cp, red x] w fun r w' => r = .returned (.bool (crB l b.c x)) ∧ Below w.heap.size w w' := by
 have X0 := hide (heap_new w (.cells #[.int .i64 (x.f : Int), .int .i64 (x.t : Int), .int .i64 (x.r : Int)] 36))
 have B0 := hide (below_alloc w (.cells #[.int .i64 (x.f : Int), .int .i64 (x.t : Int), .int .i64 (x.r : Int)] 36))
 have HA := hide (hA.below B0.out)
 have ht := (List.getElem?_eq_some_iff.1 hb).1
 have H := hide h
 unfold red
 obtain ⟨bb, oo, rfl, -⟩ := HA.out x.t b hb
 obtain ⟨p0, p1, p2, p3, p4, p5, p6, p7⟩ := HA.out.read hb
 have tt0 : (0 : Int) ≤ (x.t : Int) := by omega
 have tt1 : (x.t : Int) < (l.length : Int) := by omega
 have y1 : (w.alloc (.cells #[.int .i64 (x.f : Int), .int .i64 (x.t : Int), .int .i64 (x.r : Int)] 36)).cell? ⟨w.heap.size, 1, none⟩ = some (.int .i64 (x.t : Int)) := cell_of X0.out 1
 by_cases hc : b.c < 0
 ·have Z : crB l b.c x = false := by
   cases q : crB l b.c x
   ·rfl
   ·have := (crB_iff.1 q).1
    omega
  rw [Z]
  have dc : decide (b.c < 0) = true := by simp [hc]
  clear Z hc hA h hb ht
  go_enter Tryz.func80, Tryz.ntmps80
  go_wp2_with fail
  go_ret
  exact ⟨rfl, B0.out⟩
 obtain ⟨d, hd⟩ : ∃ d : Nat, b.c = (d : Int) := ⟨b.c.toNat, by omega⟩
 rw [hd] at p2 ⊢
 have dc : decide ((d : Int) < 0) = false := by simp
 have YES := hide (fun (q : ∃ k, mt l (szF l (d : Int)) (done l (d : Int) true l.length) (done l (d : Int) false l.length) x k) => crB_iff.2 ⟨(by omega : 0 ≤ (d : Int)), q⟩)
 have NO := hide (fun (q : ∀ k, ¬ mt l (szF l (d : Int)) (done l (d : Int) true l.length) (done l (d : Int) false l.length) x k) => (show crB l (d : Int) x = false by
  cases z : crB l (d : Int) x
  ·rfl
  ·obtain ⟨k, hk⟩ := (crB_iff.1 z).2
   exact absurd hk (q k)))
 have SZ := hide (fun u (bl : Below w.heap.size w u) (hE : EsAt u (some ⟨bb, oo, none⟩) l) => rsize_any (some ⟨bb, oo, none⟩) l cp d u hE h hl)
 have DN := hide (fun u (t : Bool) (hE : EsAt u (some ⟨bb, oo, none⟩) l) => rdone_any (some ⟨bb, oo, none⟩) l cp d t u hE hl)
 have sz4 := (sz_is h d).2
 have MEM := hide (fun (t : Bool) (p : Nat) (q : p ∈ done l (d : Int) t l.length) => (show p < l.length by
  obtain ⟨⟨e, he, -⟩, -⟩ := done_lt h _ _ q
  exact (List.getElem?_eq_some_iff.1 he).1))
 have BG := hide (fun u (p : Nat) (hE : EsAt u (some ⟨bb, oo, none⟩) l) (hp : p < l.length) => rbegins_any (some ⟨bb, oo, none⟩) l cp p u hE h hp (by omega))
 have LS := done_len l (d : Int) true l.length
 have LR := done_len l (d : Int) false l.length
 obtain ⟨S, hS⟩ : ∃ S, done l (d : Int) true l.length = S := ⟨_, rfl⟩
 obtain ⟨R, hR⟩ : ∃ R, done l (d : Int) false l.length = R := ⟨_, rfl⟩
 have MS := hide (MEM.out true)
 have MR := hide (MEM.out false)
 have DT := hide (fun u => DN.out u true)
 have DF := hide (fun u => DN.out u false)
 rw [hS] at YES NO LS MS DT
 rw [hR] at YES NO LR MR DF
 obtain ⟨sz, hsz⟩ : ∃ sz, szF l (d : Int) = sz := ⟨_, rfl⟩
 rw [hsz] at YES NO SZ sz4
 obtain ⟨z, hz⟩ : ∃ z, crB l (d : Int) x = z := ⟨_, rfl⟩
 rw [hz] at YES NO ⊢
 obtain ⟨nS, hnS⟩ : ∃ n, S.length = n := ⟨_, rfl⟩
 obtain ⟨nR, hnR⟩ : ∃ n, R.length = n := ⟨_, rfl⟩
 have NS := hide hnS
 have NR := hide hnR
 rw [hnS] at LS
 rw [hnR] at LR
 obtain ⟨L, hL⟩ : ∃ L, l.length = L := ⟨_, rfl⟩
 rw [hL] at SZ DT DF BG MS MR LS LR hl tt1 ⊢
 clear hA h hb ht hc hd MEM DN hS hR hsz hz hnS hnR hL
 go_enter Tryz.func80, Tryz.ntmps80
 go_upto_region 1 with fail
 generalize w.alloc (.cells #[.int .i64 (x.f : Int), .int .i64 (x.t : Int), .int .i64 (x.r : Int)] 36) = w0 at *
 go_wp2_with fail
 refine (SZ.out _ B0.out HA.out).mono ?_
 rintro r w1 ⟨rfl, b1⟩
 have B1 := hide b1
 have E1 := hide (HA.out.below b1)
 clear b1 SZ p0 p1 p2 p3 p4 p5 p6 p7 y1
 go_wp2_with fail
 refine (DT.out _ E1.out).mono ?_
 rintro r w2 ⟨v2, rfl, o2, b2⟩
 have B2 := hide (btr B1.out b2)
 have E2 := hide (E1.out.below b2)
 obtain ⟨sa, sc, rfl, -, -⟩ := o2.sl
 have O2 := hide o2
 rw [NS.out] at O2 ⊢
 clear b2 o2 DT
 go_wp2_with fail
 refine (DF.out _ E2.out).mono ?_
 rintro r w3 ⟨v3, rfl, o3, b3⟩
 have B3 := hide (btr B2.out b3)
 have E3 := hide (E2.out.below b3)
 have OS := hide (O2.out.below b3)
 obtain ⟨ra, rc, rfl, -, -⟩ := o3.sl
 have OR := hide o3
 rw [NR.out] at OR ⊢
 have X3 := hide (heap_below X0.out B3.out)
 have BF := hide (btr B0.out B3.out)
 clear b3 o3 DF
 go_wp2_with fail
 go_loopw [30] (fun iv wr => ∃ k : Nat, k ≤ nR ∧ iv = .int .i64 k ∧ (∃ m, wr = w3.drewN m) ∧ ∀ j, j < k → ¬ mt l sz S R x j) (fun iv _ => nR - (intOf iv).toNat)
 case atStart => exact ⟨0, Nat.zero_le _, rfl, ⟨0, rfl⟩, fun j hj => absurd hj (Nat.not_lt_zero _)⟩
 case round =>
  obtain ⟨k, hk, rfl, ⟨m, hm⟩, hno⟩ := hrel
  have HM := hide hm
  have BD : Below w3.heap.size w3 wr := by rw [hm]; exact bdrew _ _
  have HNO := hide hno
  have EA := hide (E3.out.below BD)
  have X4 := hide (heap_below X3.out BD)
  have BR := hide (btr BF.out BD)
  have y0 : wr.cell? ⟨w.heap.size, 0, none⟩ = some (.int .i64 (x.f : Int)) := cell_of X4.out 0
  have y1 : wr.cell? ⟨w.heap.size, 1, none⟩ = some (.int .i64 (x.t : Int)) := cell_of X4.out 1
  have y2 : wr.cell? ⟨w.heap.size, 2, none⟩ = some (.int .i64 (x.r : Int)) := cell_of X4.out 2
  by_cases hlt : k < nR
  ·have hlt' : (k : Int) < (nR : Int) := by omega
   have k0 : (0 : Int) ≤ (k : Int) := by omega
   obtain ⟨q, hq⟩ : ∃ q, R[k]? = some q := ⟨_, List.getElem?_eq_getElem (by rw [NR.out]; omega)⟩
   obtain ⟨gr, rfl, r0⟩ := (show On wr w2.heap.size (.slice ra R.length rc) R by rw [NR.out]; exact OR.out.below BD).cell hq
   have HQ := hide hq
   have BGq := hide (fun n => BG.out (wr.drewN n) q (EA.out.below (bdrew _ _)) (MR.out q (List.mem_of_getElem? hq)))
   have qL := MR.out q (List.mem_of_getElem? hq)
   obtain ⟨bq, hbq⟩ : ∃ v, bg l q = v := ⟨_, rfl⟩
   have HBQ := hide hbq
   rw [hbq] at BGq
   obtain ⟨tj, hto⟩ : ∃ tj, k + sz = tj := ⟨_, rfl⟩
   have HTO := hide hto
   have hto' : (k : Int) + (sz : Int) = (tj : Int) := by omega
   have htw : IntKind.i64.wrap (tj : Int) = (tj : Int) := by rw [IntKind.wrap_i64]; omega
   have to0 : (0 : Int) ≤ (tj : Int) := by omega
   have OSr := hide (OS.out.below BD)
   have hsz4 : sz ≤ 4 := sz4
   clear hq hm hno BD hbq hto
   by_cases h3 : x.r = 3
   ·have c1 : ((x.r : Int) == 3) = true := by simp [h3]
    have c1n : (x.r == 3) = true := by simp [h3]
    have c5 : ((x.r : Int) == 5) = false := by simp [h3]
    have c5n : (x.r == 5) = false := by simp [h3]
    have c6 : ((x.r : Int) == 6) = false := by simp [h3]
    have c6n : (x.r == 6) = false := by simp [h3]
    have H3 := hide h3
    clear h3
    cases hp : S[k]? with
    | none =>
      have e1 : nS ≤ k := by have := List.getElem?_eq_none_iff.1 hp; rw [NS.out] at this; exact this
      have c2 : decide ((k : Int) < (nS : Int)) = false := by simp; omega
      have c2n : decide (k < nS) = false := by simp; omega
      have NA : Hid (¬ (x.r = 3 ∧ ∃ p, S[k]? = some p ∧ x = ⟨bg l p, q, 3⟩)) := by rintro ⟨-, p, hp2, -⟩; rw [hp] at hp2; cases hp2
      clear hp e1
      go_wp2_with fail
      go_quiet (fail)
      go_wp2_with fail
      generalize hw4 : World.drewN wr _ = w4
      have BD4 : Below wr.heap.size wr w4 := by rw [← hw4]; exact bdrew _ _
      have HM4 := hide (show w4 = w3.drewN _ from hw4.symm.trans (drew_more HM.out))
      have X5 := hide (heap_below X4.out BD4)
      have BR4 := hide (btr BR.out BD4)
      have EA4 := hide (EA.out.below BD4)
      have r04 : w4.cell? ⟨gr, k, none⟩ = some (.int .i64 (q : Int)) := cellB r0 BD4
      have OS4 := hide (OSr.out.below BD4)
      have BGq4 := hide (fun n => BG.out (w4.drewN n) q (EA4.out.below (bdrew _ _)) qL)
      rw [HBQ.out] at BGq4
      clear hw4 BD4 y0 y1 y2 r0
      have y0 : w4.cell? ⟨w.heap.size, 0, none⟩ = some (.int .i64 (x.f : Int)) := cell_of X5.out 0
      have y1 : w4.cell? ⟨w.heap.size, 1, none⟩ = some (.int .i64 (x.t : Int)) := cell_of X5.out 1
      have y2 : w4.cell? ⟨w.heap.size, 2, none⟩ = some (.int .i64 (x.r : Int)) := cell_of X5.out 2
      cases hp2 : S[tj]? with
      | none =>
        have e1 : nS ≤ tj := by have := List.getElem?_eq_none_iff.1 hp2; rw [NS.out] at this; exact this
        have d1 : decide ((tj : Int) < (nS : Int)) = false := by simp; omega
        have d1n : decide (tj < nS) = false := by simp; omega
        have NB : Hid (¬ ∃ p, S[k + sz]? = some p ∧ x = ⟨bg l q, p, if sz = 0 then 5 else 6⟩) := by rintro ⟨p, h1, -⟩; rw [HTO.out, hp2] at h1; cases h1
        clear hp2 e1
        go_quiet (fail)
        have STEP : Hid (∀ j, j < k + 1 → ¬ mt l sz S R x j) := fun j hj hmt => by
         by_cases ej : j = k
         ·obtain ⟨q', hq', ho⟩ := hmt
          rw [ej, HQ.out] at hq'
          cases hq'
          rw [ej] at ho
          rcases ho with z | z
          ·exact NA.out z
          ·exact NB.out z
         ·exact HNO.out j (by omega) hmt
        go_wp2_with fail
        go_roundw
        case measure => simp [intOf]; omega
        case rel => exact ⟨k + 1, by omega, by simp, ⟨_, drew_more HM4.out⟩, STEP.out⟩
      | some p2 =>
        have e1 : tj < nS := by have := (List.getElem?_eq_some_iff.1 hp2).1; rw [NS.out] at this; exact this
        have d1 : decide ((tj : Int) < (nS : Int)) = true := by simp; omega
        have d1n : decide (tj < nS) = true := by simp; omega
        have d1' : (tj : Int) < (nS : Int) := by omega
        obtain ⟨gs4, es4, s1⟩ := (show On w4 w1.heap.size (.slice _ S.length sc) S by rw [NS.out]; exact OS4.out).cell hp2
        subst es4
        have HP2 := hide hp2
        have INV : Hid (∀ p, S[k + sz]? = some p → p = p2) := fun p hp3 => by rw [HTO.out, HP2.out] at hp3; cases hp3; rfl
        clear hp2 e1
        by_cases f1 : bq = x.f
        case neg =>
         have d2 : ((bq : Int) == (x.f : Int)) = false := by simp; omega
         have d2n : (bq == x.f) = false := by simp; omega
         have NB : Hid (¬ ∃ p, S[k + sz]? = some p ∧ x = ⟨bg l q, p, if sz = 0 then 5 else 6⟩) := by rintro ⟨p, -, h2⟩; apply f1; rw [h2, ← HBQ.out]
         clear f1
         go_quiet ((go_at_call 16; exact Calls.quiet_of (BGq4.out _)))
         have STEP : Hid (∀ j, j < k + 1 → ¬ mt l sz S R x j) := fun j hj hmt => by
          by_cases ej : j = k
          ·obtain ⟨q', hq', ho⟩ := hmt
           rw [ej, HQ.out] at hq'
           cases hq'
           rw [ej] at ho
           rcases ho with z | z
           ·exact NA.out z
           ·exact NB.out z
          ·exact HNO.out j (by omega) hmt
         go_wp2_with fail
         go_roundw
         case measure => simp [intOf]; omega
         case rel => exact ⟨k + 1, by omega, by simp, ⟨_, drew_more HM4.out⟩, STEP.out⟩
        case pos =>
        have d2 : ((bq : Int) == (x.f : Int)) = true := by simp; omega
        have d2n : (bq == x.f) = true := by simp; omega
        by_cases f2 : p2 = x.t
        case neg =>
         have d3 : ((p2 : Int) == (x.t : Int)) = false := by simp; omega
         have d3n : (p2 == x.t) = false := by simp; omega
         have NB : Hid (¬ ∃ p, S[k + sz]? = some p ∧ x = ⟨bg l q, p, if sz = 0 then 5 else 6⟩) := by rintro ⟨p, h1, h2⟩; apply f2; rw [← INV.out p h1, h2]
         clear f1 f2
         go_quiet ((go_at_call 16; exact Calls.quiet_of (BGq4.out _)))
         have STEP : Hid (∀ j, j < k + 1 → ¬ mt l sz S R x j) := fun j hj hmt => by
          by_cases ej : j = k
          ·obtain ⟨q', hq', ho⟩ := hmt
           rw [ej, HQ.out] at hq'
           cases hq'
           rw [ej] at ho
           rcases ho with z | z
           ·exact NA.out z
           ·exact NB.out z
          ·exact HNO.out j (by omega) hmt
         go_wp2_with fail
         go_roundw
         case measure => simp [intOf]; omega
         case rel => exact ⟨k + 1, by omega, by simp, ⟨_, drew_more HM4.out⟩, STEP.out⟩
        case pos =>
        have d3 : ((p2 : Int) == (x.t : Int)) = true := by simp; omega
        have d3n : (p2 == x.t) = true := by simp; omega
        have NB : Hid (¬ ∃ p, S[k + sz]? = some p ∧ x = ⟨bg l q, p, if sz = 0 then 5 else 6⟩) := by
         rintro ⟨p, -, h2⟩
         have h3 := H3.out
         rw [h2] at h3
         have h4 : (if sz = 0 then 5 else 6) = 3 := h3
         split at h4 <;> omega
        clear f1 f2
        go_quiet ((go_at_call 16; exact Calls.quiet_of (BGq4.out _)))
        have STEP : Hid (∀ j, j < k + 1 → ¬ mt l sz S R x j) := fun j hj hmt => by
         by_cases ej : j = k
         ·obtain ⟨q', hq', ho⟩ := hmt
          rw [ej, HQ.out] at hq'
          cases hq'
          rw [ej] at ho
          rcases ho with z | z
          ·exact NA.out z
          ·exact NB.out z
         ·exact HNO.out j (by omega) hmt
        go_wp2_with fail
        go_roundw
        case measure => simp [intOf]; omega
        case rel => exact ⟨k + 1, by omega, by simp, ⟨_, drew_more HM4.out⟩, STEP.out⟩
    | some p =>
      have e1 : k < nS := by have := (List.getElem?_eq_some_iff.1 hp).1; rw [NS.out] at this; exact this
      have c2 : decide ((k : Int) < (nS : Int)) = true := by simp; omega
      have c2n : decide (k < nS) = true := by simp; omega
      have c2' : (k : Int) < (nS : Int) := by omega
      obtain ⟨gs, rfl, s0⟩ := (show On wr w1.heap.size (.slice sa S.length sc) S by rw [NS.out]; exact OSr.out).cell hp
      have BGp := hide (fun n => BG.out (wr.drewN n) p (EA.out.below (bdrew _ _)) (MS.out p (List.mem_of_getElem? hp)))
      have pL := MS.out p (List.mem_of_getElem? hp)
      obtain ⟨bp, hbp⟩ : ∃ v, bg l p = v := ⟨_, rfl⟩
      have HBP := hide hbp
      have HP := hide hp
      rw [hbp] at BGp
      clear hp hbp e1
      by_cases g1 : bp = x.f
      case neg =>
       have a2 : ((bp : Int) == (x.f : Int)) = false := by simp; omega
       have a2n : (bp == x.f) = false := by simp; omega
       have NA : Hid (¬ (x.r = 3 ∧ ∃ p, S[k]? = some p ∧ x = ⟨bg l p, q, 3⟩)) := by
        rintro ⟨-, p', h1, h2⟩
        rw [HP.out] at h1
        cases h1
        apply g1
        rw [h2, ← HBP.out]
       clear g1
       go_wp2_with fail
       go_quiet ((go_at_call 16; exact Calls.quiet_of (BGp.out _)))
       go_wp2_with fail
       generalize hw4 : World.drewN wr _ = w4
       have BD4 : Below wr.heap.size wr w4 := by rw [← hw4]; exact bdrew _ _
       have HM4 := hide (show w4 = w3.drewN _ from hw4.symm.trans (drew_more HM.out))
       have X5 := hide (heap_below X4.out BD4)
       have BR4 := hide (btr BR.out BD4)
       have EA4 := hide (EA.out.below BD4)
       have r04 : w4.cell? ⟨gr, k, none⟩ = some (.int .i64 (q : Int)) := cellB r0 BD4
       have OS4 := hide (OSr.out.below BD4)
       have BGq4 := hide (fun n => BG.out (w4.drewN n) q (EA4.out.below (bdrew _ _)) qL)
       rw [HBQ.out] at BGq4
       clear hw4 BD4 y0 y1 y2 r0
       have y0 : w4.cell? ⟨w.heap.size, 0, none⟩ = some (.int .i64 (x.f : Int)) := cell_of X5.out 0
       have y1 : w4.cell? ⟨w.heap.size, 1, none⟩ = some (.int .i64 (x.t : Int)) := cell_of X5.out 1
       have y2 : w4.cell? ⟨w.heap.size, 2, none⟩ = some (.int .i64 (x.r : Int)) := cell_of X5.out 2
       cases hp2 : S[tj]? with
       | none =>
         have e1 : nS ≤ tj := by have := List.getElem?_eq_none_iff.1 hp2; rw [NS.out] at this; exact this
         have d1 : decide ((tj : Int) < (nS : Int)) = false := by simp; omega
         have d1n : decide (tj < nS) = false := by simp; omega
         have NB : Hid (¬ ∃ p, S[k + sz]? = some p ∧ x = ⟨bg l q, p, if sz = 0 then 5 else 6⟩) := by rintro ⟨p, h1, -⟩; rw [HTO.out, hp2] at h1; cases h1
         clear hp2 e1
         go_quiet (fail)
         have STEP : Hid (∀ j, j < k + 1 → ¬ mt l sz S R x j) := fun j hj hmt => by
          by_cases ej : j = k
          ·obtain ⟨q', hq', ho⟩ := hmt
           rw [ej, HQ.out] at hq'
           cases hq'
           rw [ej] at ho
           rcases ho with z | z
           ·exact NA.out z
           ·exact NB.out z
          ·exact HNO.out j (by omega) hmt
         go_wp2_with fail
         go_roundw
         case measure => simp [intOf]; omega
         case rel => exact ⟨k + 1, by omega, by simp, ⟨_, drew_more HM4.out⟩, STEP.out⟩
       | some p2 =>
         have e1 : tj < nS := by have := (List.getElem?_eq_some_iff.1 hp2).1; rw [NS.out] at this; exact this
         have d1 : decide ((tj : Int) < (nS : Int)) = true := by simp; omega
         have d1n : decide (tj < nS) = true := by simp; omega
         have d1' : (tj : Int) < (nS : Int) := by omega
         obtain ⟨gs4, es4, s1⟩ := (show On w4 w1.heap.size (.slice _ S.length sc) S by rw [NS.out]; exact OS4.out).cell hp2
         obtain rfl : gs4 = gs := by cases es4; rfl
         have HP2 := hide hp2
         have INV : Hid (∀ p, S[k + sz]? = some p → p = p2) := fun p hp3 => by rw [HTO.out, HP2.out] at hp3; cases hp3; rfl
         clear hp2 e1
         by_cases f1 : bq = x.f
         case neg =>
          have d2 : ((bq : Int) == (x.f : Int)) = false := by simp; omega
          have d2n : (bq == x.f) = false := by simp; omega
          have NB : Hid (¬ ∃ p, S[k + sz]? = some p ∧ x = ⟨bg l q, p, if sz = 0 then 5 else 6⟩) := by rintro ⟨p, -, h2⟩; apply f1; rw [h2, ← HBQ.out]
          clear f1
          go_quiet ((go_at_call 16; exact Calls.quiet_of (BGq4.out _)))
          have STEP : Hid (∀ j, j < k + 1 → ¬ mt l sz S R x j) := fun j hj hmt => by
           by_cases ej : j = k
           ·obtain ⟨q', hq', ho⟩ := hmt
            rw [ej, HQ.out] at hq'
            cases hq'
            rw [ej] at ho
            rcases ho with z | z
            ·exact NA.out z
            ·exact NB.out z
           ·exact HNO.out j (by omega) hmt
          go_wp2_with fail
          go_roundw
          case measure => simp [intOf]; omega
          case rel => exact ⟨k + 1, by omega, by simp, ⟨_, drew_more HM4.out⟩, STEP.out⟩
         case pos =>
         have d2 : ((bq : Int) == (x.f : Int)) = true := by simp; omega
         have d2n : (bq == x.f) = true := by simp; omega
         by_cases f2 : p2 = x.t
         case neg =>
          have d3 : ((p2 : Int) == (x.t : Int)) = false := by simp; omega
          have d3n : (p2 == x.t) = false := by simp; omega
          have NB : Hid (¬ ∃ p, S[k + sz]? = some p ∧ x = ⟨bg l q, p, if sz = 0 then 5 else 6⟩) := by rintro ⟨p, h1, h2⟩; apply f2; rw [← INV.out p h1, h2]
          clear f1 f2
          go_quiet ((go_at_call 16; exact Calls.quiet_of (BGq4.out _)))
          have STEP : Hid (∀ j, j < k + 1 → ¬ mt l sz S R x j) := fun j hj hmt => by
           by_cases ej : j = k
           ·obtain ⟨q', hq', ho⟩ := hmt
            rw [ej, HQ.out] at hq'
            cases hq'
            rw [ej] at ho
            rcases ho with z | z
            ·exact NA.out z
            ·exact NB.out z
           ·exact HNO.out j (by omega) hmt
          go_wp2_with fail
          go_roundw
          case measure => simp [intOf]; omega
          case rel => exact ⟨k + 1, by omega, by simp, ⟨_, drew_more HM4.out⟩, STEP.out⟩
         case pos =>
         have d3 : ((p2 : Int) == (x.t : Int)) = true := by simp; omega
         have d3n : (p2 == x.t) = true := by simp; omega
         have NB : Hid (¬ ∃ p, S[k + sz]? = some p ∧ x = ⟨bg l q, p, if sz = 0 then 5 else 6⟩) := by
          rintro ⟨p, -, h2⟩
          have h3 := H3.out
          rw [h2] at h3
          have h4 : (if sz = 0 then 5 else 6) = 3 := h3
          split at h4 <;> omega
         clear f1 f2
         go_quiet ((go_at_call 16; exact Calls.quiet_of (BGq4.out _)))
         have STEP : Hid (∀ j, j < k + 1 → ¬ mt l sz S R x j) := fun j hj hmt => by
          by_cases ej : j = k
          ·obtain ⟨q', hq', ho⟩ := hmt
           rw [ej, HQ.out] at hq'
           cases hq'
           rw [ej] at ho
           rcases ho with z | z
           ·exact NA.out z
           ·exact NB.out z
          ·exact HNO.out j (by omega) hmt
         go_wp2_with fail
         go_roundw
         case measure => simp [intOf]; omega
         case rel => exact ⟨k + 1, by omega, by simp, ⟨_, drew_more HM4.out⟩, STEP.out⟩
      case pos =>
      have a2 : ((bp : Int) == (x.f : Int)) = true := by simp; omega
      have a2n : (bp == x.f) = true := by simp; omega
      by_cases g2 : q = x.t
      case neg =>
       have a3 : ((q : Int) == (x.t : Int)) = false := by simp; omega
       have a3n : (q == x.t) = false := by simp; omega
       have NA : Hid (¬ (x.r = 3 ∧ ∃ p, S[k]? = some p ∧ x = ⟨bg l p, q, 3⟩)) := by
        rintro ⟨-, p', h1, h2⟩
        apply g2
        rw [h2]
       clear g1 g2
       go_wp2_with fail
       go_quiet ((go_at_call 16; exact Calls.quiet_of (BGp.out _)))
       go_wp2_with fail
       generalize hw4 : World.drewN wr _ = w4
       have BD4 : Below wr.heap.size wr w4 := by rw [← hw4]; exact bdrew _ _
       have HM4 := hide (show w4 = w3.drewN _ from hw4.symm.trans (drew_more HM.out))
       have X5 := hide (heap_below X4.out BD4)
       have BR4 := hide (btr BR.out BD4)
       have EA4 := hide (EA.out.below BD4)
       have r04 : w4.cell? ⟨gr, k, none⟩ = some (.int .i64 (q : Int)) := cellB r0 BD4
       have OS4 := hide (OSr.out.below BD4)
       have BGq4 := hide (fun n => BG.out (w4.drewN n) q (EA4.out.below (bdrew _ _)) qL)
       rw [HBQ.out] at BGq4
       clear hw4 BD4 y0 y1 y2 r0
       have y0 : w4.cell? ⟨w.heap.size, 0, none⟩ = some (.int .i64 (x.f : Int)) := cell_of X5.out 0
       have y1 : w4.cell? ⟨w.heap.size, 1, none⟩ = some (.int .i64 (x.t : Int)) := cell_of X5.out 1
       have y2 : w4.cell? ⟨w.heap.size, 2, none⟩ = some (.int .i64 (x.r : Int)) := cell_of X5.out 2
       cases hp2 : S[tj]? with
       | none =>
         have e1 : nS ≤ tj := by have := List.getElem?_eq_none_iff.1 hp2; rw [NS.out] at this; exact this
         have d1 : decide ((tj : Int) < (nS : Int)) = false := by simp; omega
         have d1n : decide (tj < nS) = false := by simp; omega
         have NB : Hid (¬ ∃ p, S[k + sz]? = some p ∧ x = ⟨bg l q, p, if sz = 0 then 5 else 6⟩) := by rintro ⟨p, h1, -⟩; rw [HTO.out, hp2] at h1; cases h1
         clear hp2 e1
         go_quiet (fail)
         have STEP : Hid (∀ j, j < k + 1 → ¬ mt l sz S R x j) := fun j hj hmt => by
          by_cases ej : j = k
          ·obtain ⟨q', hq', ho⟩ := hmt
           rw [ej, HQ.out] at hq'
           cases hq'
           rw [ej] at ho
           rcases ho with z | z
           ·exact NA.out z
           ·exact NB.out z
          ·exact HNO.out j (by omega) hmt
         go_wp2_with fail
         go_roundw
         case measure => simp [intOf]; omega
         case rel => exact ⟨k + 1, by omega, by simp, ⟨_, drew_more HM4.out⟩, STEP.out⟩
       | some p2 =>
         have e1 : tj < nS := by have := (List.getElem?_eq_some_iff.1 hp2).1; rw [NS.out] at this; exact this
         have d1 : decide ((tj : Int) < (nS : Int)) = true := by simp; omega
         have d1n : decide (tj < nS) = true := by simp; omega
         have d1' : (tj : Int) < (nS : Int) := by omega
         obtain ⟨gs4, es4, s1⟩ := (show On w4 w1.heap.size (.slice _ S.length sc) S by rw [NS.out]; exact OS4.out).cell hp2
         obtain rfl : gs4 = gs := by cases es4; rfl
         have HP2 := hide hp2
         have INV : Hid (∀ p, S[k + sz]? = some p → p = p2) := fun p hp3 => by rw [HTO.out, HP2.out] at hp3; cases hp3; rfl
         clear hp2 e1
         by_cases f1 : bq = x.f
         case neg =>
          have d2 : ((bq : Int) == (x.f : Int)) = false := by simp; omega
          have d2n : (bq == x.f) = false := by simp; omega
          have NB : Hid (¬ ∃ p, S[k + sz]? = some p ∧ x = ⟨bg l q, p, if sz = 0 then 5 else 6⟩) := by rintro ⟨p, -, h2⟩; apply f1; rw [h2, ← HBQ.out]
          clear f1
          go_quiet ((go_at_call 16; exact Calls.quiet_of (BGq4.out _)))
          have STEP : Hid (∀ j, j < k + 1 → ¬ mt l sz S R x j) := fun j hj hmt => by
           by_cases ej : j = k
           ·obtain ⟨q', hq', ho⟩ := hmt
            rw [ej, HQ.out] at hq'
            cases hq'
            rw [ej] at ho
            rcases ho with z | z
            ·exact NA.out z
            ·exact NB.out z
           ·exact HNO.out j (by omega) hmt
          go_wp2_with fail
          go_roundw
          case measure => simp [intOf]; omega
          case rel => exact ⟨k + 1, by omega, by simp, ⟨_, drew_more HM4.out⟩, STEP.out⟩
         case pos =>
         have d2 : ((bq : Int) == (x.f : Int)) = true := by simp; omega
         have d2n : (bq == x.f) = true := by simp; omega
         by_cases f2 : p2 = x.t
         case neg =>
          have d3 : ((p2 : Int) == (x.t : Int)) = false := by simp; omega
          have d3n : (p2 == x.t) = false := by simp; omega
          have NB : Hid (¬ ∃ p, S[k + sz]? = some p ∧ x = ⟨bg l q, p, if sz = 0 then 5 else 6⟩) := by rintro ⟨p, h1, h2⟩; apply f2; rw [← INV.out p h1, h2]
          clear f1 f2
          go_quiet ((go_at_call 16; exact Calls.quiet_of (BGq4.out _)))
          have STEP : Hid (∀ j, j < k + 1 → ¬ mt l sz S R x j) := fun j hj hmt => by
           by_cases ej : j = k
           ·obtain ⟨q', hq', ho⟩ := hmt
            rw [ej, HQ.out] at hq'
            cases hq'
            rw [ej] at ho
            rcases ho with z | z
            ·exact NA.out z
            ·exact NB.out z
           ·exact HNO.out j (by omega) hmt
          go_wp2_with fail
          go_roundw
          case measure => simp [intOf]; omega
          case rel => exact ⟨k + 1, by omega, by simp, ⟨_, drew_more HM4.out⟩, STEP.out⟩
         case pos =>
         have d3 : ((p2 : Int) == (x.t : Int)) = true := by simp; omega
         have d3n : (p2 == x.t) = true := by simp; omega
         have NB : Hid (¬ ∃ p, S[k + sz]? = some p ∧ x = ⟨bg l q, p, if sz = 0 then 5 else 6⟩) := by
          rintro ⟨p, -, h2⟩
          have h3 := H3.out
          rw [h2] at h3
          have h4 : (if sz = 0 then 5 else 6) = 3 := h3
          split at h4 <;> omega
         clear f1 f2
         go_quiet ((go_at_call 16; exact Calls.quiet_of (BGq4.out _)))
         have STEP : Hid (∀ j, j < k + 1 → ¬ mt l sz S R x j) := fun j hj hmt => by
          by_cases ej : j = k
          ·obtain ⟨q', hq', ho⟩ := hmt
           rw [ej, HQ.out] at hq'
           cases hq'
           rw [ej] at ho
           rcases ho with z | z
           ·exact NA.out z
           ·exact NB.out z
          ·exact HNO.out j (by omega) hmt
         go_wp2_with fail
         go_roundw
         case measure => simp [intOf]; omega
         case rel => exact ⟨k + 1, by omega, by simp, ⟨_, drew_more HM4.out⟩, STEP.out⟩
      case pos =>
      have a3 : ((q : Int) == (x.t : Int)) = true := by simp; omega
      have a3n : (q == x.t) = true := by simp; omega
      have Z := hide (YES.out ⟨k, q, HQ.out, .inl ⟨H3.out, p, HP.out, by
       have h3 := H3.out
       obtain ⟨xf, xt, xr⟩ := x
       simp only at g1 g2 h3
       rw [HBP.out, g1, g2, h3]⟩⟩)
      clear g1 g2
      go_wp2_with fail
      go_quiet ((go_at_call 16; exact Calls.quiet_of (BGp.out _)))
      go_wp2_with fail
      go_ret
      exact ⟨by rw [Z.out]; rfl, btr BR.out (bdrew _ _)⟩
   ·have c1 : ((x.r : Int) == 3) = false := by simp; omega
    have c1n : (x.r == 3) = false := by simp; omega
    have NA : Hid (¬ (x.r = 3 ∧ ∃ p, S[k]? = some p ∧ x = ⟨bg l p, q, 3⟩)) := fun z => h3 z.1
    have H3 := hide h3
    clear h3
    go_wp2_with fail
    go_quiet (fail)
    go_wp2_with fail
    generalize hw4 : World.drewN wr _ = w4
    have BD4 : Below wr.heap.size wr w4 := by rw [← hw4]; exact bdrew _ _
    have HM4 := hide (show w4 = w3.drewN _ from hw4.symm.trans (drew_more HM.out))
    have X5 := hide (heap_below X4.out BD4)
    have BR4 := hide (btr BR.out BD4)
    have EA4 := hide (EA.out.below BD4)
    have r04 : w4.cell? ⟨gr, k, none⟩ = some (.int .i64 (q : Int)) := cellB r0 BD4
    have OS4 := hide (OSr.out.below BD4)
    have BGq4 := hide (fun n => BG.out (w4.drewN n) q (EA4.out.below (bdrew _ _)) qL)
    rw [HBQ.out] at BGq4
    clear hw4 BD4 y0 y1 y2 r0
    have y0 : w4.cell? ⟨w.heap.size, 0, none⟩ = some (.int .i64 (x.f : Int)) := cell_of X5.out 0
    have y1 : w4.cell? ⟨w.heap.size, 1, none⟩ = some (.int .i64 (x.t : Int)) := cell_of X5.out 1
    have y2 : w4.cell? ⟨w.heap.size, 2, none⟩ = some (.int .i64 (x.r : Int)) := cell_of X5.out 2
    cases hp2 : S[tj]? with
    | none =>
      have e1 : nS ≤ tj := by have := List.getElem?_eq_none_iff.1 hp2; rw [NS.out] at this; exact this
      have d1 : decide ((tj : Int) < (nS : Int)) = false := by simp; omega
      have d1n : decide (tj < nS) = false := by simp; omega
      have NB : Hid (¬ ∃ p, S[k + sz]? = some p ∧ x = ⟨bg l q, p, if sz = 0 then 5 else 6⟩) := by rintro ⟨p, h1, -⟩; rw [HTO.out, hp2] at h1; cases h1
      clear hp2 e1
      go_quiet (fail)
      have STEP : Hid (∀ j, j < k + 1 → ¬ mt l sz S R x j) := fun j hj hmt => by
       by_cases ej : j = k
       ·obtain ⟨q', hq', ho⟩ := hmt
        rw [ej, HQ.out] at hq'
        cases hq'
        rw [ej] at ho
        rcases ho with z | z
        ·exact NA.out z
        ·exact NB.out z
       ·exact HNO.out j (by omega) hmt
      go_wp2_with fail
      go_roundw
      case measure => simp [intOf]; omega
      case rel => exact ⟨k + 1, by omega, by simp, ⟨_, drew_more HM4.out⟩, STEP.out⟩
    | some p2 =>
      have e1 : tj < nS := by have := (List.getElem?_eq_some_iff.1 hp2).1; rw [NS.out] at this; exact this
      have d1 : decide ((tj : Int) < (nS : Int)) = true := by simp; omega
      have d1n : decide (tj < nS) = true := by simp; omega
      have d1' : (tj : Int) < (nS : Int) := by omega
      obtain ⟨gs4, es4, s1⟩ := (show On w4 w1.heap.size (.slice _ S.length sc) S by rw [NS.out]; exact OS4.out).cell hp2
      subst es4
      have HP2 := hide hp2
      have INV : Hid (∀ p, S[k + sz]? = some p → p = p2) := fun p hp3 => by rw [HTO.out, HP2.out] at hp3; cases hp3; rfl
      clear hp2 e1
      by_cases f1 : bq = x.f
      case neg =>
       have d2 : ((bq : Int) == (x.f : Int)) = false := by simp; omega
       have d2n : (bq == x.f) = false := by simp; omega
       have NB : Hid (¬ ∃ p, S[k + sz]? = some p ∧ x = ⟨bg l q, p, if sz = 0 then 5 else 6⟩) := by rintro ⟨p, -, h2⟩; apply f1; rw [h2, ← HBQ.out]
       clear f1
       go_quiet ((go_at_call 16; exact Calls.quiet_of (BGq4.out _)))
       have STEP : Hid (∀ j, j < k + 1 → ¬ mt l sz S R x j) := fun j hj hmt => by
        by_cases ej : j = k
        ·obtain ⟨q', hq', ho⟩ := hmt
         rw [ej, HQ.out] at hq'
         cases hq'
         rw [ej] at ho
         rcases ho with z | z
         ·exact NA.out z
         ·exact NB.out z
        ·exact HNO.out j (by omega) hmt
       go_wp2_with fail
       go_roundw
       case measure => simp [intOf]; omega
       case rel => exact ⟨k + 1, by omega, by simp, ⟨_, drew_more HM4.out⟩, STEP.out⟩
      case pos =>
      have d2 : ((bq : Int) == (x.f : Int)) = true := by simp; omega
      have d2n : (bq == x.f) = true := by simp; omega
      by_cases f2 : p2 = x.t
      case neg =>
       have d3 : ((p2 : Int) == (x.t : Int)) = false := by simp; omega
       have d3n : (p2 == x.t) = false := by simp; omega
       have NB : Hid (¬ ∃ p, S[k + sz]? = some p ∧ x = ⟨bg l q, p, if sz = 0 then 5 else 6⟩) := by rintro ⟨p, h1, h2⟩; apply f2; rw [← INV.out p h1, h2]
       clear f1 f2
       go_quiet ((go_at_call 16; exact Calls.quiet_of (BGq4.out _)))
       have STEP : Hid (∀ j, j < k + 1 → ¬ mt l sz S R x j) := fun j hj hmt => by
        by_cases ej : j = k
        ·obtain ⟨q', hq', ho⟩ := hmt
         rw [ej, HQ.out] at hq'
         cases hq'
         rw [ej] at ho
         rcases ho with z | z
         ·exact NA.out z
         ·exact NB.out z
        ·exact HNO.out j (by omega) hmt
       go_wp2_with fail
       go_roundw
       case measure => simp [intOf]; omega
       case rel => exact ⟨k + 1, by omega, by simp, ⟨_, drew_more HM4.out⟩, STEP.out⟩
      case pos =>
      have d3 : ((p2 : Int) == (x.t : Int)) = true := by simp; omega
      have d3n : (p2 == x.t) = true := by simp; omega
      by_cases hz0 : sz = 0
      ·have z1 : ((sz : Int) == 0) = true := by simp [hz0]
       have z1n : (sz == 0) = true := by simp [hz0]
       have z2 : decide ((sz : Int) > 0) = false := by simp; omega
       have z2n : decide (0 < sz) = false := by simp; omega
       by_cases h5 : x.r = 5
       ·have c5 : ((x.r : Int) == 5) = true := by simp [h5]
        have c5n : (x.r == 5) = true := by simp [h5]
        have Z := hide (YES.out ⟨k, q, HQ.out, .inr ⟨p2, by rw [HTO.out]; exact HP2.out, by
         obtain ⟨xf, xt, xr⟩ := x
         simp only at f1 f2 h5
         rw [if_pos hz0, HBQ.out, f1, f2, h5]⟩⟩)
        clear f1 f2 hz0 h5
        go_quiet ((go_at_call 16; exact Calls.quiet_of (BGq4.out _)))
        go_wp2_with fail
        go_ret
        exact ⟨by rw [Z.out]; rfl, btr BR4.out (bdrew _ _)⟩
       ·have c5 : ((x.r : Int) == 5) = false := by simp; omega
        have c5n : (x.r == 5) = false := by simp; omega
        have NB : Hid (¬ ∃ p, S[k + sz]? = some p ∧ x = ⟨bg l q, p, if sz = 0 then 5 else 6⟩) := by rintro ⟨p, -, h2⟩; apply h5; rw [h2, if_pos hz0]
        cases c6 : ((x.r : Int) == 6)
        ·clear f1 f2 hz0 h5
         go_quiet ((go_at_call 16; exact Calls.quiet_of (BGq4.out _)))
         have STEP : Hid (∀ j, j < k + 1 → ¬ mt l sz S R x j) := fun j hj hmt => by
          by_cases ej : j = k
          ·obtain ⟨q', hq', ho⟩ := hmt
           rw [ej, HQ.out] at hq'
           cases hq'
           rw [ej] at ho
           rcases ho with z | z
           ·exact NA.out z
           ·exact NB.out z
          ·exact HNO.out j (by omega) hmt
         go_wp2_with fail
         go_roundw
         case measure => simp [intOf]; omega
         case rel => exact ⟨k + 1, by omega, by simp, ⟨_, drew_more HM4.out⟩, STEP.out⟩
        ·clear f1 f2 hz0 h5
         go_quiet ((go_at_call 16; exact Calls.quiet_of (BGq4.out _)))
         have STEP : Hid (∀ j, j < k + 1 → ¬ mt l sz S R x j) := fun j hj hmt => by
          by_cases ej : j = k
          ·obtain ⟨q', hq', ho⟩ := hmt
           rw [ej, HQ.out] at hq'
           cases hq'
           rw [ej] at ho
           rcases ho with z | z
           ·exact NA.out z
           ·exact NB.out z
          ·exact HNO.out j (by omega) hmt
         go_wp2_with fail
         go_roundw
         case measure => simp [intOf]; omega
         case rel => exact ⟨k + 1, by omega, by simp, ⟨_, drew_more HM4.out⟩, STEP.out⟩
      ·have z1 : ((sz : Int) == 0) = false := by simp; omega
       have z1n : (sz == 0) = false := by simp; omega
       have z2 : decide ((sz : Int) > 0) = true := by simp; omega
       have z2n : decide (0 < sz) = true := by simp; omega
       by_cases h6 : x.r = 6
       ·have c6 : ((x.r : Int) == 6) = true := by simp [h6]
        have c6n : (x.r == 6) = true := by simp [h6]
        have c5 : ((x.r : Int) == 5) = false := by simp [h6]
        have c5n : (x.r == 5) = false := by simp [h6]
        have Z := hide (YES.out ⟨k, q, HQ.out, .inr ⟨p2, by rw [HTO.out]; exact HP2.out, by
         obtain ⟨xf, xt, xr⟩ := x
         simp only at f1 f2 h6
         rw [if_neg hz0, HBQ.out, f1, f2, h6]⟩⟩)
        clear f1 f2 hz0 h6
        go_quiet ((go_at_call 16; exact Calls.quiet_of (BGq4.out _)))
        go_wp2_with fail
        go_ret
        exact ⟨by rw [Z.out]; rfl, btr BR4.out (bdrew _ _)⟩
       ·have c6 : ((x.r : Int) == 6) = false := by simp; omega
        have c6n : (x.r == 6) = false := by simp; omega
        have NB : Hid (¬ ∃ p, S[k + sz]? = some p ∧ x = ⟨bg l q, p, if sz = 0 then 5 else 6⟩) := by rintro ⟨p, -, h2⟩; apply h6; rw [h2, if_neg hz0]
        cases c5 : ((x.r : Int) == 5)
        ·clear f1 f2 hz0 h6
         go_quiet ((go_at_call 16; exact Calls.quiet_of (BGq4.out _)))
         have STEP : Hid (∀ j, j < k + 1 → ¬ mt l sz S R x j) := fun j hj hmt => by
          by_cases ej : j = k
          ·obtain ⟨q', hq', ho⟩ := hmt
           rw [ej, HQ.out] at hq'
           cases hq'
           rw [ej] at ho
           rcases ho with z | z
           ·exact NA.out z
           ·exact NB.out z
          ·exact HNO.out j (by omega) hmt
         go_wp2_with fail
         go_roundw
         case measure => simp [intOf]; omega
         case rel => exact ⟨k + 1, by omega, by simp, ⟨_, drew_more HM4.out⟩, STEP.out⟩
        ·clear f1 f2 hz0 h6
         go_quiet ((go_at_call 16; exact Calls.quiet_of (BGq4.out _)))
         have STEP : Hid (∀ j, j < k + 1 → ¬ mt l sz S R x j) := fun j hj hmt => by
          by_cases ej : j = k
          ·obtain ⟨q', hq', ho⟩ := hmt
           rw [ej, HQ.out] at hq'
           cases hq'
           rw [ej] at ho
           rcases ho with z | z
           ·exact NA.out z
           ·exact NB.out z
          ·exact HNO.out j (by omega) hmt
         go_wp2_with fail
         go_roundw
         case measure => simp [intOf]; omega
         case rel => exact ⟨k + 1, by omega, by simp, ⟨_, drew_more HM4.out⟩, STEP.out⟩
  ·clear hm
   have dl : decide ((k : Int) < (nR : Int)) = false := by simp; omega
   have Z := hide (NO.out (fun j hj => by
    by_cases hjk : j < k
    ·exact HNO.out j hjk hj
    ·obtain ⟨q, hq, -⟩ := hj
     have := (List.getElem?_eq_some_iff.1 hq).1
     rw [NR.out] at this
     omega))
   go_wp2_with fail
   go_ret
   exact ⟨by rw [Z.out]; rfl, BR.out⟩
end Eg
end Go.Proofs.YtblfimobiibmjaaGreat
namespace Go.Proofs.YtblfimobiibmjaaGreat
open Go.ChangeShapes Go.WideShapes Go.ChangeAt Go.RowKit
namespace Eg
open En Gu Ba
theorem done_k {l : List Ev} (h : Tok l) {c : Int} {b : Bool} {n j : Nat} (hj : j ∈ done l c b n) : ∃ e, l[j]? = some e ∧ e.k ≠ 13 := by
 unfold done at hj
 rw [List.mem_flatMap] at hj
 obtain ⟨i, -, hi⟩ := hj
 obtain ⟨⟨e, he, -⟩, q⟩ := one_at h hi
 rcases q with q | ⟨-, x, hx, h7⟩
 ·subst q
  refine ⟨e, he, fun h13 => ?_⟩
  unfold one at hi
  rw [he] at hi
  simp only at hi
  rw [if_pos (.inr (by unfold moves; simp [h13]))] at hi
  simp at hi
 ·exact ⟨x, hx, by omega⟩
theorem isD_13 {l : List Ev} (h : Tok l) {x : Ed} (hx : isD l x) {a b : Ev} (ha : l[x.f]? = some a) (hb : l[x.t]? = some b) : a.k ≠ 13 ∧ b.k ≠ 13 := by
 by_cases hr : x.r = 1
 ·rcases hx with ⟨-, b', hb', h13, -, ⟨e, he, e13, -⟩, -⟩ | q | q | ⟨b', -, -, q⟩
  ·rw [hb] at hb'; cases hb'
   rw [ha] at he; cases he
   exact ⟨e13, h13⟩
  ·have := q.1; omega
  ·have := q.1; omega
  ·have := isC_r q; omega
 ·obtain ⟨e, he, ht⟩ := isD_tells h hx hr
  rw [ha] at he; cases he
  refine ⟨by unfold tells at ht; omega, ?_⟩
  rcases hx with q | ⟨-, b', hb', h13, -⟩ | ⟨-, -, b', hb', hn, -⟩ | ⟨b', -, -, k, q, hq, ⟨-, p, hp, e2⟩ | ⟨p, hp, e2⟩⟩
  ·exact absurd q.1 hr
  ·rw [hb] at hb'; cases hb'; exact h13
  ·rw [hb] at hb'; cases hb'
   rcases hn.1 with z | z <;> omega
  ·obtain ⟨y, hy, hk⟩ := done_k h (List.mem_of_getElem? hq)
   have e3 : x.t = q := by rw [e2]
   rw [e3, hy] at hb; cases hb; exact hk
  ·obtain ⟨y, hy, hk⟩ := done_k h (List.mem_of_getElem? hp)
   have e3 : x.t = p := by rw [e2]
   rw [e3, hy] at hb; cases hb; exact hk
theorem bool_of {p : Prop} {b c : Bool} (h : b = true ↔ p) (h2 : c = true ↔ p) : b = c := by
 rw [Bool.eq_iff_iff]
 exact h.trans h2.symm
theorem is_r1 {l : List Ev} {x : Ed} (hft : x.f < x.t) {a b : Ev} (ha : l[x.f]? = some a) (hb : l[x.t]? = some b) (a13 : a.k ≠ 13) (b13 : b.k ≠ 13) (hr : x.r = 1) : isB l x = (decide (a.g = b.g) && !btwB l x.f x.t b.g) := by
 refine bool_of isB_iff ?_
 simp only [Bool.and_eq_true, decide_eq_true_eq, Bool.not_eq_true']
 constructor
 ·rintro ⟨h1, h2⟩
  exact .inl ⟨hr, b, hb, b13, hft, ⟨a, ha, a13, h1⟩, fun z => by rw [btwB_iff.2 z] at h2; cases h2⟩
 ·intro hx
  rcases hx with ⟨-, b', hb', -, -, ⟨e, he, -, hg⟩, hn⟩ | q | q | ⟨b', -, -, q⟩
  ·rw [hb] at hb'; cases hb'
   rw [ha] at he; cases he
   refine ⟨hg, ?_⟩
   cases z : btwB l x.f x.t b.g
   ·rfl
   ·exact absurd (btwB_iff.1 z) hn
  ·have := q.1; omega
  ·have := q.1; omega
  ·have := isC_r q; omega
theorem is_r2 {l : List Ev} {x : Ed} (hft : x.f < x.t) {a b : Ev} (ha : l[x.f]? = some a) (hb : l[x.t]? = some b) (b13 : b.k ≠ 13) (hr : x.r = 2) : isB l x = (decide (a.k = 1) && decide (a.m = b.g) && !btwB l x.f x.t b.g) := by
 refine bool_of isB_iff ?_
 simp only [Bool.and_eq_true, decide_eq_true_eq, Bool.not_eq_true']
 constructor
 ·rintro ⟨⟨h0, h1⟩, h2⟩
  exact .inr (.inl ⟨hr, b, hb, b13, hft, ⟨a, ha, h0, h1⟩, fun z => by rw [btwB_iff.2 z] at h2; cases h2⟩)
 ·intro hx
  rcases hx with q | ⟨-, b', hb', -, -, ⟨e, he, h0, hg⟩, hn⟩ | q | ⟨b', -, -, q⟩
  ·have := q.1; omega
  ·rw [hb] at hb'; cases hb'
   rw [ha] at he; cases he
   refine ⟨⟨h0, hg⟩, ?_⟩
   cases z : btwB l x.f x.t b.g
   ·rfl
   ·exact absurd (btwB_iff.1 z) hn
  ·have := q.1; omega
  ·have := isC_r q; omega
theorem is_r4 {l : List Ev} {x : Ed} (hft : x.f < x.t) {a b : Ev} (ha : l[x.f]? = some a) (hb : l[x.t]? = some b) (hr : x.r = 4) : isB l x = (decide (a.k = 5) && (decide (b.k = 4) || decide (b.k = 7)) && !b.o && decide (b.c = a.c)) := by
 refine bool_of isB_iff ?_
 simp only [Bool.and_eq_true, Bool.or_eq_true, decide_eq_true_eq, Bool.not_eq_true']
 constructor
 ·rintro ⟨⟨⟨h0, h1⟩, h2⟩, h3⟩
  exact .inr (.inr (.inl ⟨hr, hft, b, hb, ⟨h1, h2⟩, a, ha, h0, h3.symm⟩))
 ·intro hx
  rcases hx with q | q | ⟨-, -, b', hb', hn, e, he, h0, hg⟩ | ⟨b', -, -, q⟩
  ·have := q.1; omega
  ·have := q.1; omega
  ·rw [hb] at hb'; cases hb'
   rw [ha] at he; cases he
   exact ⟨⟨⟨h0, hn.1⟩, hn.2⟩, hg.symm⟩
  ·have := isC_r q; omega
theorem is_rc {l : List Ev} {x : Ed} {b : Ev} (hb : l[x.t]? = some b) (hr : x.r ≠ 1 ∧ x.r ≠ 2 ∧ x.r ≠ 4) : isB l x = crB l b.c x := by
 refine bool_of isB_iff ?_
 rw [crB_iff]
 constructor
 ·intro q
  exact .inr (.inr (.inr ⟨b, hb, q.1, q.2⟩))
 ·intro hx
  rcases hx with q | q | q | ⟨b', hb', h0, q⟩
  ·exact absurd q.1 hr.1
  ·exact absurd q.1 hr.2.1
  ·exact absurd q.1 hr.2.2
  ·rw [hb] at hb'; cases hb'
   exact ⟨h0, q⟩
set_option maxRecDepth 100000 in
set_option maxHeartbeats 12800000 in
theorem ris_any (oa : Option Addr) (l : List Ev) (cp : Nat) (x : Ed) (w : World) (hA : EsAt w oa l) (h : Tok l) (hl : l.length ≤ 2000) (hft : x.f < x.t) (ht : x.t < l.length) :
 Calls Tryz.prog 40 #[.slice oa l.length cp, red x] w fun r w' => r = .returned (.bool (isB l x)) ∧ Below w.heap.size w w' := by
 obtain ⟨a, ha⟩ : ∃ a, l[x.f]? = some a := ⟨_, List.getElem?_eq_getElem (by omega)⟩
 obtain ⟨b, hb⟩ : ∃ b, l[x.t]? = some b := ⟨_, List.getElem?_eq_getElem ht⟩
 have X0 := hide (heap_new w ((.cells #[.int .i64 (x.f : Int), .int .i64 (x.t : Int), .int .i64 (x.r : Int)] 36)))
 have B0 := hide (below_alloc w ((.cells #[.int .i64 (x.f : Int), .int .i64 (x.t : Int), .int .i64 (x.r : Int)] 36)))
 have E0 := hide (hA.below B0.out)
 obtain ⟨bb, oo, rfl, -⟩ := E0.out x.t b hb
 have BT := hide (fun u (bl : Below w.heap.size w u) (g : Int) => between_any (some ⟨bb, oo, none⟩) l cp x g u (hA.below bl) hl ht hft)
 have CR := hide (fun u (bl : Below w.heap.size w u) => crosses_any (some ⟨bb, oo, none⟩) l cp x u (hA.below bl) h hl b hb)
 have K13 := hide (fun (q : isB l x = true) => isD_13 h (isB_iff.1 q) ha hb)
 have R1 := hide (fun (a13 : a.k ≠ 13) (b13 : b.k ≠ 13) (hr : x.r = 1) => is_r1 hft ha hb a13 b13 hr)
 have R2 := hide (fun (b13 : b.k ≠ 13) (hr : x.r = 2) => is_r2 hft ha hb b13 hr)
 have R4 := hide (fun (hr : x.r = 4) => is_r4 hft ha hb hr)
 have RC := hide (fun (hr : x.r ≠ 1 ∧ x.r ≠ 2 ∧ x.r ≠ 4) => is_rc hb hr)
 obtain ⟨z, hz⟩ : ∃ z, isB l x = z := ⟨_, rfl⟩
 rw [hz] at K13 R1 R2 R4 RC ⊢
 unfold red at BT CR ⊢
 have HAA := hide ha
 have HBB := hide hb
 have ff0 : (0 : Int) ≤ (x.f : Int) := by omega
 have ff1 : (x.f : Int) < (l.length : Int) := by omega
 have tt0 : (0 : Int) ≤ (x.t : Int) := by omega
 have tt1 : (x.t : Int) < (l.length : Int) := by omega
 obtain ⟨L, hL⟩ : ∃ L, l.length = L := ⟨_, rfl⟩
 rw [hL] at BT CR ff1 tt1 ⊢
 clear hA h ht hl hft ha hb hz hL
 go_enter Tryz.func40, Tryz.ntmps40
 go_upto_region 1 with fail
 generalize w.alloc ((.cells #[.int .i64 (x.f : Int), .int .i64 (x.t : Int), .int .i64 (x.r : Int)] 36)) = w0 at *
 obtain ⟨p0, p1, p2, p3, p4, p5, p6, p7⟩ := E0.out.read HAA.out
 have y0 : w0.cell? ⟨w.heap.size, 0, none⟩ = some (.int .i64 (x.f : Int)) := cell_of X0.out 0
 go_upto_region 2 with fail
 have XA := hide (heap_new w0 ((.cells #[.int .i64 a.k, .int .i64 a.g, .int .i64 a.c, .int .i64 a.a, .int .i64 a.v, .int .i64 a.m, .bool a.s, .bool a.o] 50)))
 have BA := hide (below_alloc w0 ((.cells #[.int .i64 a.k, .int .i64 a.g, .int .i64 a.c, .int .i64 a.a, .int .i64 a.v, .int .i64 a.m, .bool a.s, .bool a.o] 50)))
 generalize w0.alloc ((.cells #[.int .i64 a.k, .int .i64 a.g, .int .i64 a.c, .int .i64 a.a, .int .i64 a.v, .int .i64 a.m, .bool a.s, .bool a.o] 50)) = w1 at *
 have E1 := hide (E0.out.below BA.out)
 have X1 := hide (heap_below X0.out BA.out)
 clear p0 p1 p2 p3 p4 p5 p6 p7 y0
 obtain ⟨p0, p1, p2, p3, p4, p5, p6, p7⟩ := E1.out.read HBB.out
 have y1 : w1.cell? ⟨w.heap.size, 1, none⟩ = some (.int .i64 (x.t : Int)) := cell_of X1.out 1
 go_upto_region 3 with fail
 have XBB := hide (heap_new w1 ((.cells #[.int .i64 b.k, .int .i64 b.g, .int .i64 b.c, .int .i64 b.a, .int .i64 b.v, .int .i64 b.m, .bool b.s, .bool b.o] 50)))
 have BBB := hide (below_alloc w1 ((.cells #[.int .i64 b.k, .int .i64 b.g, .int .i64 b.c, .int .i64 b.a, .int .i64 b.v, .int .i64 b.m, .bool b.s, .bool b.o] 50)))
 generalize w1.alloc ((.cells #[.int .i64 b.k, .int .i64 b.g, .int .i64 b.c, .int .i64 b.a, .int .i64 b.v, .int .i64 b.m, .bool b.s, .bool b.o] 50)) = w2 at *
 have XA2 := hide (heap_below XA.out BBB.out)
 have X2 := hide (heap_below X1.out BBB.out)
 have BW := hide (btr (btr B0.out BA.out) BBB.out)
 clear p0 p1 p2 p3 p4 p5 p6 p7 y1
 have y0 : w2.cell? ⟨w.heap.size, 0, none⟩ = some (.int .i64 (x.f : Int)) := cell_of X2.out 0
 have y1 : w2.cell? ⟨w.heap.size, 1, none⟩ = some (.int .i64 (x.t : Int)) := cell_of X2.out 1
 have y2 : w2.cell? ⟨w.heap.size, 2, none⟩ = some (.int .i64 (x.r : Int)) := cell_of X2.out 2
 have a0 : w2.cell? ⟨w0.heap.size, 0, none⟩ = some (.int .i64 a.k) := cell_of XA2.out 0
 have a1 : w2.cell? ⟨w0.heap.size, 1, none⟩ = some (.int .i64 a.g) := cell_of XA2.out 1
 have a2 : w2.cell? ⟨w0.heap.size, 2, none⟩ = some (.int .i64 a.c) := cell_of XA2.out 2
 have a5 : w2.cell? ⟨w0.heap.size, 5, none⟩ = some (.int .i64 a.m) := cell_of XA2.out 5
 have b0 : w2.cell? ⟨w1.heap.size, 0, none⟩ = some (.int .i64 b.k) := cell_of XBB.out 0
 have b1 : w2.cell? ⟨w1.heap.size, 1, none⟩ = some (.int .i64 b.g) := cell_of XBB.out 1
 have b2 : w2.cell? ⟨w1.heap.size, 2, none⟩ = some (.int .i64 b.c) := cell_of XBB.out 2
 have b7 : w2.cell? ⟨w1.heap.size, 7, none⟩ = some (.bool b.o) := cell_of XBB.out 7
 by_cases ha13 : a.k = 13
 ·have d1 : (a.k == 13) = true := by simp [ha13]
  have Z : Hid (z = false) := by
   show z = false
   cases z
   ·rfl
   ·exact absurd ha13 (K13.out rfl).1
  clear ha13
  go_wp2_with fail
  go_ret
  exact ⟨by rw [Z.out]; rfl, BW.out⟩
 have d1 : (a.k == 13) = false := by simp [ha13]
 by_cases hb13 : b.k = 13
 ·have d2 : (b.k == 13) = true := by simp [hb13]
  have Z : Hid (z = false) := by
   show z = false
   cases z
   ·rfl
   ·exact absurd hb13 (K13.out rfl).2
  clear ha13 hb13
  go_wp2_with fail
  go_ret
  exact ⟨by rw [Z.out]; rfl, BW.out⟩
 have d2 : (b.k == 13) = false := by simp [hb13]
 by_cases r1 : x.r = 1
 ·have c1 : ((x.r : Int) == 1) = true := by simp [r1]
  have c1n : (x.r == 1) = true := by simp [r1]
  have V := R1.out ha13 hb13 r1
  by_cases hg : a.g = b.g
  ·have g1 : (a.g == b.g) = true := by simp [hg]
   rw [decide_eq_true hg, Bool.true_and] at V
   have Z := hide V
   clear V ha13 hb13 r1 hg
   have BTC := hide (BT.out w2 BW.out b.g)
   generalize btwB l x.f x.t b.g = bt at *
   go_wp2_with fail
   refine BTC.out.mono ?_
   rintro r w3 ⟨rfl, b3⟩
   have B3 := hide (btr BW.out b3)
   clear b3
   go_wp2_with fail
   go_ret
   exact ⟨by rw [Z.out]; rfl, B3.out⟩
  ·have g1 : (a.g == b.g) = false := by simp [hg]
   rw [decide_eq_false hg, Bool.false_and] at V
   have Z := hide V
   clear V ha13 hb13 r1 hg
   go_wp2_with fail
   go_ret
   exact ⟨by rw [Z.out]; rfl, BW.out⟩
 have c1 : ((x.r : Int) == 1) = false := by simp; omega
 have c1n : (x.r == 1) = false := by simp; omega
 by_cases r2 : x.r = 2
 ·have c2 : ((x.r : Int) == 2) = true := by simp [r2]
  have c2n : (x.r == 2) = true := by simp [r2]
  have V := R2.out hb13 r2
  by_cases hk : a.k = 1
  ·have g0 : (a.k == 1) = true := by simp [hk]
   rw [decide_eq_true hk, Bool.true_and] at V
   by_cases hg : a.m = b.g
   ·have g1 : (a.m == b.g) = true := by simp [hg]
    rw [decide_eq_true hg, Bool.true_and] at V
    have Z := hide V
    clear V ha13 hb13 r1 r2 hg hk
    have BTC := hide (BT.out w2 BW.out b.g)
    generalize btwB l x.f x.t b.g = bt at *
    go_wp2_with fail
    refine BTC.out.mono ?_
    rintro r w3 ⟨rfl, b3⟩
    have B3 := hide (btr BW.out b3)
    clear b3
    go_wp2_with fail
    go_ret
    exact ⟨by rw [Z.out]; rfl, B3.out⟩
   ·have g1 : (a.m == b.g) = false := by simp [hg]
    rw [decide_eq_false hg, Bool.false_and] at V
    have Z := hide V
    clear V ha13 hb13 r1 r2 hg hk
    go_wp2_with fail
    go_ret
    exact ⟨by rw [Z.out]; rfl, BW.out⟩
  ·have g0 : (a.k == 1) = false := by simp [hk]
   rw [decide_eq_false hk, Bool.false_and, Bool.false_and] at V
   have Z := hide V
   clear V ha13 hb13 r1 r2 hk
   go_wp2_with fail
   go_ret
   exact ⟨by rw [Z.out]; rfl, BW.out⟩
 have c2 : ((x.r : Int) == 2) = false := by simp; omega
 have c2n : (x.r == 2) = false := by simp; omega
 by_cases r4 : x.r = 4
 ·have c4 : ((x.r : Int) == 4) = true := by simp [r4]
  have c4n : (x.r == 4) = true := by simp [r4]
  have V := R4.out r4
  clear ha13 hb13 r1 r2 r4
  by_cases h5 : a.k = 5
  case neg =>
   have g0 : (a.k == 5) = false := by simp [h5]
   have Z := hide (show z = false by rw [V]; simp [h5])
   clear V h5
   go_wp2_with fail
   go_ret
   exact ⟨by rw [Z.out]; rfl, BW.out⟩
  have g0 : (a.k == 5) = true := by simp [h5]
  by_cases h47 : b.k = 4 ∨ b.k = 7
  case neg =>
   have g1 : (b.k == 4) = false := by simp; omega
   have g2 : (b.k == 7) = false := by simp; omega
   have Z := hide (show z = false by rw [V]; have := not_or.1 h47; simp [this.1, this.2])
   clear V h5 h47
   go_wp2_with fail
   go_ret
   exact ⟨by rw [Z.out]; rfl, BW.out⟩
  have V2 : z = (!b.o && decide (b.c = a.c)) := by rw [V]; rcases h47 with q | q <;> simp [h5, q]
  clear V h5
  by_cases h4 : b.k = 4
  ·have g1 : (b.k == 4) = true := by simp [h4]
   clear h47 h4
   cases ho : b.o
   ·rw [ho] at b7 V2
    by_cases hcc : b.c = a.c
    ·have g3 : (b.c == a.c) = true := by simp [hcc]
     have Z := hide (show z = true by rw [V2]; simp [hcc])
     clear V2 hcc ho
     go_wp2_with fail
     go_ret
     exact ⟨by rw [Z.out]; rfl, BW.out⟩
    ·have g3 : (b.c == a.c) = false := by simp [hcc]
     have Z := hide (show z = false by rw [V2]; simp [hcc])
     clear V2 hcc ho
     go_wp2_with fail
     go_ret
     exact ⟨by rw [Z.out]; rfl, BW.out⟩
   ·rw [ho] at b7 V2
    have Z := hide (show z = false by rw [V2]; simp)
    clear V2 ho
    go_wp2_with fail
    go_ret
    exact ⟨by rw [Z.out]; rfl, BW.out⟩
  ·have g1 : (b.k == 4) = false := by simp [h4]
   have g2 : (b.k == 7) = true := by simp; omega
   clear h47 h4
   cases ho : b.o
   ·rw [ho] at b7 V2
    by_cases hcc : b.c = a.c
    ·have g3 : (b.c == a.c) = true := by simp [hcc]
     have Z := hide (show z = true by rw [V2]; simp [hcc])
     clear V2 hcc ho
     go_wp2_with fail
     go_ret
     exact ⟨by rw [Z.out]; rfl, BW.out⟩
    ·have g3 : (b.c == a.c) = false := by simp [hcc]
     have Z := hide (show z = false by rw [V2]; simp [hcc])
     clear V2 hcc ho
     go_wp2_with fail
     go_ret
     exact ⟨by rw [Z.out]; rfl, BW.out⟩
   ·rw [ho] at b7 V2
    have Z := hide (show z = false by rw [V2]; simp)
    clear V2 ho
    go_wp2_with fail
    go_ret
    exact ⟨by rw [Z.out]; rfl, BW.out⟩
 have c4 : ((x.r : Int) == 4) = false := by simp; omega
 have c4n : (x.r == 4) = false := by simp; omega
 have Z := hide (RC.out ⟨r1, r2, r4⟩)
 have CC := hide (CR.out w2 BW.out)
 clear ha13 hb13 r1 r2 r4
 go_wp2_with fail
 refine CC.out.mono ?_
 rintro r w3 ⟨rfl, b3⟩
 have B3 := hide (btr BW.out b3)
 clear b3
 go_wp2_with fail
 go_ret
 exact ⟨by rw [Z.out]; rfl, B3.out⟩
end Eg
end Go.Proofs.YtblfimobiibmjaaGreat
namespace Go.Proofs.YtblfimobiibmjaaGreat
open Go.ChangeShapes Go.WideShapes Go.ChangeAt Go.RowKit
namespace Eg
open En Gu Ba
def row3 (P : Ed → Bool) (f t r : Nat) : List Ed := ((List.range r).map fun r => (⟨f, t, r + 1⟩ : Ed)).filter P
def row2 (P : Ed → Bool) (t f : Nat) : List Ed := (List.range f).flatMap fun f => row3 P f t 6
theorem allD_row (P : Ed → Bool) (n : Nat) : allD P n = (List.range n).flatMap fun t => row2 P t t := rfl
theorem allD_succ (P : Ed → Bool) (n : Nat) : allD P (n + 1) = allD P n ++ row2 P n n := by
 rw [allD_row, allD_row, List.range_succ, List.flatMap_append]
 simp
theorem row2_succ (P : Ed → Bool) (t f : Nat) : row2 P t (f + 1) = row2 P t f ++ row3 P f t 6 := by
 unfold row2
 rw [List.range_succ, List.flatMap_append]
 simp
theorem row3_succ (P : Ed → Bool) (f t r : Nat) : row3 P f t (r + 1) = row3 P f t r ++ if P ⟨f, t, r + 1⟩ then [⟨f, t, r + 1⟩] else [] := by
 unfold row3
 rw [List.range_succ, List.map_append, List.filter_append]
 congr 1
 cases h : P ⟨f, t, r + 1⟩ <;> simp [h]
theorem row3_len (P : Ed → Bool) (f t r : Nat) : (row3 P f t r).length ≤ r := by
 unfold row3
 refine Nat.le_trans (List.length_filter_le _ _) ?_
 simp
theorem row2_len (P : Ed → Bool) (t : Nat) : ∀ f, (row2 P t f).length ≤ f * 6
 | 0 => by simp [row2]
 | f + 1 => by
   have := row2_len P t f
   have := row3_len P f t 6
   rw [row2_succ, List.length_append]
   omega
theorem allD_len (P : Ed → Bool) (m : Nat) : ∀ n, n ≤ m → (allD P n).length ≤ n * (m * 6)
 | 0, _ => by simp [allD]
 | n + 1, h => by
   have h1 := allD_len P m n (by omega)
   have h2 := row2_len P n n
   rw [allD_succ, List.length_append, Nat.add_mul]
   omega
def Or (w : World) (B : Nat) (v : Value) (l : List Ed) : Prop := w.ownsRow B 36 3 v l.length (edc l)
theorem Or.sl {w : World} {B : Nat} {v : Value} {l : List Ed} (h : Or w B v l) : ∃ oa c, v = .slice oa l.length c ∧ l.length ≤ c ∧ c ≤ maxLen := by
 rcases h.2 with ⟨rfl, h0⟩ | ⟨g, cap, cur, rfl, -, -, h1, h2, -⟩
 ·exact ⟨none, 0, by rw [h0], by omega, Nat.zero_le _⟩
 ·exact ⟨_, _, rfl, h1, h2⟩
theorem Or.cell {w : World} {B : Nat} {oa : Option Addr} {c k : Nat} {l : List Ed} {x : Ed} (h : Or w B (.slice oa l.length c) l) (hk : l[k]? = some x) :
 ∃ g, oa = some ⟨g, 0, none⟩ ∧ w.cell? ⟨g, k * 3, none⟩ = some (.int .i64 (x.f : Int)) ∧ w.cell? ⟨g, k * 3 + 1, none⟩ = some (.int .i64 (x.t : Int)) ∧ w.cell? ⟨g, k * 3 + 2, none⟩ = some (.int .i64 (x.r : Int)) := by
 have hl := (List.getElem?_eq_some_iff.1 hk).1
 obtain ⟨g, rfl, -, -, hc⟩ := own_cells h (by omega)
 obtain ⟨a, b, d⟩ := edc_at l k x hk
 exact ⟨g, rfl, hc _ _ a, hc _ _ b, hc _ _ d⟩
theorem Or.below {w w' : World} {B : Nat} {v : Value} {l : List Ed} (h : Or w B v l) (hb : Below w.heap.size w w') : Or w' B v l := own_below h hb
theorem info_red0 : (Tryz.prog.info? 36).map (fun i => (i.zero, i.size, i.bytes)) = some (some (.agg #[.int .i64 0, .int .i64 0, .int .i64 0]), 3, 24) := by kernel_rfl
theorem app_or {w : World} {B : Nat} {v : Value} {l : List Ed} (W : World) (ho : Or w B v l) (hb : Below w.heap.size w W) (x : Ed) (hl : l.length ≤ 90000) (hB : B ≤ w.heap.size) :
 ∃ ea' c' w', (Builtin.append_ #[30, 30] 30 #[v, .slice (some ⟨W.heap.size, 0, none⟩) 1 1]).run Tryz.prog (W.alloc (.cells #[.int .i64 (x.f : Int), .int .i64 (x.t : Int), .int .i64 (x.r : Int)] 36)) = .ok (.slice ea' (l.length + 1) c') w' ∧ Or w' B (.slice ea' (l.length + 1) c') (l ++ [x]) ∧ Below B w w' := by
 obtain ⟨i0, hi, hz, hs, hby⟩ := info_ex info_red0
 have bW := below_alloc W (.cells #[.int .i64 (x.f : Int), .int .i64 (x.t : Int), .int .i64 (x.r : Int)] 36)
 have hB2 : B ≤ (W.alloc (.cells #[.int .i64 (x.f : Int), .int .i64 (x.t : Int), .int .i64 (x.r : Int)] 36)).heap.size := by have := hb.size; have := bW.size; omega
 obtain ⟨v', w', hr, h2, hg, _, _⟩ := run_append_own_at (P := Tryz.prog) (W.alloc (.cells #[.int .i64 (x.f : Int), .int .i64 (x.t : Int), .int .i64 (x.r : Int)] 36)) B 30 30 36 i0 _ 3 24 Tryz.underlying30 hi hz hs hby rfl (by decide) _ _ _ (own_below ho (btr hb bW)) ⟨W.heap.size, 0, none⟩ 1 1 (edc [x]) rfl (fun j u hj => by rw [Addr.add_lit, Nat.zero_add, cell_of (heap_new W _)]; simpa [edc] using hj) (edc_one _) (by unfold maxLen; omega) (by omega) hB2
 rw [← edc_app] at h2
 obtain ⟨ea', c', rfl⟩ := own_sl h2
 refine ⟨ea', c', w', hr, ?_, ?_⟩
 ·unfold Or
  rw [List.length_append]
  exact h2
 ·exact ((hb.mono hB).trans (bW.mono (by have := hb.size; omega))).trans (grown_below hg (own_base ho) hB2)
set_option maxRecDepth 100000 in
set_option maxHeartbeats 12800000 in
theorem rall24_any (oa : Option Addr) (l : List Ev) (cp : Nat) (w : World) (hA : EsAt w oa l) (h : Tok l) (hl : l.length ≤ 100) :
 Calls Tryz.prog 13 #[.slice oa l.length cp] w fun r w' => ∃ v, r = .returned v ∧ Or w' w.heap.size v (allS l) ∧ Below w.heap.size w w' := by
 have HA := hide hA
 have IS := hide (fun u (bl : Below w.heap.size w u) (x : Ed) (h1 : x.f < x.t) (h2 : x.t < l.length) => ris_any oa l cp x u (hA.below bl) h (by omega) h1 h2)
 unfold allS red at *
 obtain ⟨P, hP⟩ : ∃ P, isB l = P := ⟨_, rfl⟩
 have LEN := hide (fun n => allD_len P l.length n)
 rw [hP] at IS ⊢
 obtain ⟨L, hL⟩ : ∃ L, l.length = L := ⟨_, rfl⟩
 rw [hL] at IS LEN hl ⊢
 have LB : L * (L * 6) ≤ 100 * 600 := Nat.mul_le_mul hl (by omega)
 clear hA h hP hL
 go_enter Tryz.func13, Tryz.ntmps13
 go_wp2_with fail
 go_loopw [3, 10] (fun ov iv wr => ∃ t : Nat, t ≤ L ∧ iv = .int .i64 t ∧ Or wr w.heap.size ov (allD P t) ∧ Below w.heap.size w wr) (fun _ iv _ => L - (intOf iv).toNat)
 case atStart => exact ⟨0, Nat.zero_le _, rfl, ⟨rfl, .inl ⟨rfl, rfl⟩⟩, Below.refl _ _⟩
 case round =>
  obtain ⟨t, ht, rfl, ow, hb⟩ := hrel
  have HB := hide hb
  have OW := hide ow
  have L1 := LEN.out t ht
  have L1b : (allD P t).length ≤ 60000 := Nat.le_trans L1 (Nat.le_trans (Nat.mul_le_mul_right _ ht) LB)
  obtain ⟨ea, ca, rfl, -, -⟩ := ow.sl
  obtain ⟨n1, hn1⟩ : ∃ n, (allD P t).length = n := ⟨_, rfl⟩
  have HN1 := hide hn1
  rw [hn1] at L1b OW ⊢
  clear hb ow hn1 L1
  by_cases hlt : t < L
  ·have hlt' : (t : Int) < (L : Int) := by omega
   have t0 : (0 : Int) ≤ (t : Int) := by omega
   go_wp2_with fail
   go_loopw [3, 5] (fun ov iv w2 => ∃ f : Nat, f ≤ t ∧ iv = .int .i64 f ∧ Or w2 w.heap.size ov (allD P t ++ row2 P t f) ∧ Below w.heap.size w w2) (fun _ iv _ => t - (intOf iv).toNat)
   case atStart => exact ⟨0, Nat.zero_le _, rfl, by simp only [row2, List.range_zero, List.flatMap_nil, List.append_nil]; exact OW.out, HB.out⟩
   case round =>
    rename World => w2
    obtain ⟨f, hf, rfl, ow2, hb2⟩ := hrel
    have HB2 := hide hb2
    have OW2 := hide ow2
    have L2 := row2_len P t f
    obtain ⟨ea2, ca2, rfl, -, -⟩ := ow2.sl
    obtain ⟨n2, hn2⟩ : ∃ n, (allD P t ++ row2 P t f).length = n := ⟨_, rfl⟩
    have HN2 := hide hn2
    have L2b : n2 ≤ 61000 := by rw [← hn2, List.length_append, HN1.out]; omega
    rw [hn2] at OW2 ⊢
    clear hb2 ow2 hn2 L2
    by_cases hft : f < t
    ·have hft' : (f : Int) < (t : Int) := by omega
     have f0 : (0 : Int) ≤ (f : Int) := by omega
     go_wp2_with fail
     go_loopw [3, 6] (fun ov iv w3 => ∃ k : Nat, k ≤ 6 ∧ iv = .int .i64 ((k + 1 : Nat) : Int) ∧ Or w3 w.heap.size ov ((allD P t ++ row2 P t f) ++ row3 P f t k) ∧ Below w.heap.size w w3) (fun _ iv _ => 8 - (intOf iv).toNat)
     case atStart => exact ⟨0, by omega, rfl, by simp only [row3, List.range_zero, List.map_nil, List.filter_nil, List.append_nil]; exact OW2.out, HB2.out⟩
     case round =>
      rename World => w3
      obtain ⟨k, hk, rfl, ow3, hb3⟩ := hrel
      have HB3 := hide hb3
      have OW3 := hide ow3
      have L3 := row3_len P f t k
      obtain ⟨ea3, ca3, rfl, -, -⟩ := ow3.sl
      obtain ⟨n3, hn3⟩ : ∃ n, ((allD P t ++ row2 P t f) ++ row3 P f t k).length = n := ⟨_, rfl⟩
      have HN3 := hide hn3
      have L3b : n3 ≤ 62000 := by rw [← hn3, List.length_append, HN2.out]; omega
      rw [hn3] at OW3 ⊢
      obtain ⟨r, hr⟩ : ∃ r, k + 1 = r := ⟨_, rfl⟩
      have HR := hide hr
      have RS := hide (row3_succ P f t k)
      rw [hr] at RS ⊢
      clear hb3 ow3 hn3 L3
      by_cases hk6 : k < 6
      ·have g1 : decide ((r : Int) ≤ 6) = true := by simp; omega
       have g1n : decide (r ≤ 6) = true := by simp; omega
       have BX := hide (btr HB3.out (below_alloc w3 (.cells #[.int .i64 (f : Int), .int .i64 (t : Int), .int .i64 (r : Int)] 36)))
       have XB := hide (heap_new w3 (.cells #[.int .i64 (f : Int), .int .i64 (t : Int), .int .i64 (r : Int)] 36))
       have CI := hide (IS.out _ BX.out ⟨f, t, r⟩ hft hlt)
       have OX := hide (OW3.out.below (below_alloc w3 (.cells #[.int .i64 (f : Int), .int .i64 (t : Int), .int .i64 (r : Int)] 36)))
       have hrb : (r : Int) ≤ 6 := by omega
       clear hr
       go_upto_region 12 with fail
       generalize w3.alloc (.cells #[.int .i64 (f : Int), .int .i64 (t : Int), .int .i64 (r : Int)] 36) = w4 at *
       have x0 : w4.cell? ⟨w3.heap.size, 0, none⟩ = some (.int .i64 (f : Int)) := cell_of XB.out 0
       have x1 : w4.cell? ⟨w3.heap.size, 1, none⟩ = some (.int .i64 (t : Int)) := cell_of XB.out 1
       have x2 : w4.cell? ⟨w3.heap.size, 2, none⟩ = some (.int .i64 (r : Int)) := cell_of XB.out 2
       cases hpb : P ⟨f, t, r⟩
       ·rw [hpb] at CI RS
        clear hpb
        go_wp2_with fail
        refine CI.out.mono ?_
        rintro q w5 ⟨rfl, b5⟩
        have B5 := hide (btr BX.out b5)
        have O5 := hide (OX.out.below b5)
        clear b5 CI
        go_wp2_with fail
        go_roundw
        case measure => simp [intOf]; omega
        case rel => exact ⟨k + 1, by omega, by have := HR.out; simp; omega, by rw [HR.out, RS.out]; simpa using O5.out, B5.out⟩
       ·rw [hpb] at CI RS
        clear hpb
        go_wp2_with fail
        refine CI.out.mono ?_
        rintro q w5 ⟨rfl, b5⟩
        have B5 := hide (btr BX.out b5)
        have O5 := hide (OX.out.below b5)
        have X5 := hide (heap_below XB.out b5)
        obtain ⟨ea', c', w6, hap, o6, b6⟩ := app_or w5 (by have q := O5.out; rw [← HN3.out] at q; exact q) (Below.refl _ _) (⟨f, t, r⟩ : Ed) (by rw [HN3.out]; omega) B5.out.size
        rw [HN3.out] at hap o6
        have O6 := hide o6
        have B6 := hide (B5.out.trans b6)
        clear b5 CI x0 x1 x2 o6 b6
        have x0 : w5.cell? ⟨w3.heap.size, 0, none⟩ = some (.int .i64 (f : Int)) := cell_of X5.out 0
        have x1 : w5.cell? ⟨w3.heap.size, 1, none⟩ = some (.int .i64 (t : Int)) := cell_of X5.out 1
        have x2 : w5.cell? ⟨w3.heap.size, 2, none⟩ = some (.int .i64 (r : Int)) := cell_of X5.out 2
        go_wp2_with (at_builtin; refine Lib.wpList_append_run _ (by rfl) _ _ _ _ (by rfl) _ _ (by rfl) (by rfl) _ _ hap ?_)
        go_roundw
        case measure => simp [intOf]; omega
        case rel => exact ⟨k + 1, by omega, by have := HR.out; simp; omega, by rw [HR.out, RS.out, if_pos trivial, ← List.append_assoc]; exact O6.out, B6.out⟩
      ·have g1 : decide ((r : Int) ≤ 6) = false := by simp; omega
       have g1n : decide (r ≤ 6) = false := by simp; omega
       have hk66 : k = 6 := by omega
       have O7 : Hid (Or w3 w.heap.size (.slice ea3 n3 ca3) (allD P t ++ row2 P t (f + 1))) := by
        rw [show Hid _ = _ from rfl, row2_succ, ← List.append_assoc]
        have q := OW3.out
        rw [hk66] at q
        exact q
       clear hr hk66
       go_wp2_with fail
       go_roundw
       case measure => simp [intOf]; omega
       case rel => exact ⟨f + 1, by omega, by simp, O7.out, HB3.out⟩
    ·have g2 : decide ((f : Int) < (t : Int)) = false := by simp; omega
     have g2n : decide (f < t) = false := by simp; omega
     have hft2 : f = t := by omega
     have O7 : Hid (Or w2 w.heap.size (.slice ea2 n2 ca2) (allD P (t + 1))) := by
      rw [show Hid _ = _ from rfl, allD_succ]
      have q := OW2.out
      rw [hft2] at q
      exact q
     clear hft2
     go_wp2_with fail
     go_roundw
     case measure => simp [intOf]; omega
     case rel => exact ⟨t + 1, by omega, by simp, O7.out, HB2.out⟩
  ·have g3 : decide ((t : Int) < (L : Int)) = false := by simp; omega
   have htL : t = L := by omega
   have O7 : Hid (Or wr w.heap.size (.slice ea n1 ca) (allD P L)) := by
    have q := OW.out
    rw [htL] at q
    exact q
   clear htL
   go_wp2_with fail
   go_ret
   exact ⟨_, rfl, O7.out, HB.out⟩
end Eg
end Go.Proofs.YtblfimobiibmjaaGreat
namespace Go.Proofs.YtblfimobiibmjaaGreat
open Go.ChangeShapes Go.WideShapes Go.ChangeAt Go.RowKit
namespace Ax
open En Gu Eg Ba
theorem size_ty : (Tryz.prog.info? 44).map (·.size) = some 2 := by kernel_rfl
theorem loadVar_ty {w : World} {b : Nat} {c : Array Value} {t : TypeId} (h : w.heap[b]? = some (.cells c t (0, 0))) (hc : c.size = 2) : (loadVar 44 ⟨b, 0, none⟩).run Tryz.prog w = .ok (.agg c) w :=
 run_loadVar_row w b t _ _ _ _ h Tryz.underlying44 rfl (by rw [size_ty, hc])
structure TR (w : World) (N G : Nat) (oa : Option Addr) (l : List Ev) : Prop where
 rx : ∃ v bs, Mx.RX w N G l.length (hA l) v bs
 es : EsAt w oa l
theorem TR.below {w w' : World} {N G : Nat} {oa : Option Addr} {l : List Ev} (h : TR w N G oa l) (hb : Below w.heap.size w w') : TR w' N G oa l := by
 obtain ⟨⟨v, bs, x⟩, e⟩ := h
 exact ⟨⟨v, bs, x.below hb⟩, e.below hb⟩
theorem TR.has {w : World} {N G : Nat} {oa : Option Addr} {l : List Ev} (h : TR w N G oa l) {i k : Nat} (hi : i < l.length) (hk : k < l.length) :
 Calls Tryz.prog 22 #[.pointer (some ⟨G, 0, none⟩), .int .i64 (i : Int), .int .i64 (k : Int)] w fun e w' => e = .returned (.bool (hA l i k)) ∧ w' = w := by
 obtain ⟨⟨v, bs, x⟩, -⟩ := h
 refine (Mx.rhas_any x (i : Int) (k : Int)).mono ?_
 rintro e w' ⟨rfl, rfl⟩
 refine ⟨?_, rfl⟩
 unfold Mx.fI
 rw [(Mx.inB_iff _ _ _).2 ⟨by omega, by omega, by omega, by omega⟩]
 simp
theorem own_keepG {w w' : World} {B g : Nat} {e : TypeId} {sz n n' c : Nat} {xs : List Value} (hn : n = n') (h : w.ownsRow B e sz (.slice (some ⟨g, 0, none⟩) n' c) n xs) (hk : w'.heap[g]? = w.heap[g]?) : w'.ownsRow B e sz (.slice (some ⟨g, 0, none⟩) n' c) n xs := by
 subst hn
 refine ⟨h.1, ?_⟩
 rcases h.2 with ⟨q, -⟩ | ⟨g', cap, cur, q1, q2, q3, q4⟩
 ·cases q
 ·cases q1
  exact .inr ⟨g, c, cur, rfl, q2, hk.trans q3, q4⟩
theorem rx_base {w : World} {N N' G n : Nat} {f : Nat → Nat → Bool} {v : Value} {bs : List Nat} (x : Mx.RX w N G n f v bs) (h : N' ≤ N) : Mx.RX w N' G n f v bs := by
 refine ⟨x.le, x.hd, Nat.le_trans h x.gb, ⟨⟨x.tx.own.1, ?_⟩, fun i b hb => ⟨Nat.le_trans h (x.tx.row i b hb).1, (x.tx.row i b hb).2⟩, x.tx.nd⟩, x.len⟩
 rcases x.tx.own.2 with q | ⟨g', cap, cur, q1, q2, q3⟩
 ·exact .inl q
 ·exact .inr ⟨g', cap, cur, q1, Nat.le_trans h q2, q3⟩
structure OfI (w1 wr : World) (N G : Nat) (P : List (Int × Int)) (n : Nat) (iv : Value) (k : Nat) : Prop where
 le : k ≤ P.length
 iv : iv = .int .i64 (k : Int)
 bl : Below N w1 wr
 rx : ∃ v bs, Mx.RX wr N G n (Mx.hs (Mx.sets n (fun _ => 0) (P.take k))) v bs
set_option maxRecDepth 100000 in
set_option maxHeartbeats 3200000 in
theorem of_any (oa : Option Addr) (l : List Ev) (c : Nat) (w : World) (hE : EsAt w oa l) (h : Tok l) (hl : l.length ≤ 100) :
 Calls Tryz.prog 19 #[.slice oa l.length c] w fun r w' => ∃ G, r = .returned (.agg #[.slice oa l.length c, .pointer (some ⟨G, 0, none⟩)]) ∧ TR w' w.heap.size G oa l ∧ Below w.heap.size w w' := by
 have BX := hide (below_alloc w (.cells #[.slice none 0 0, .pointer none] 44))
 have T0 := hide (heap_new w (.cells #[.slice none 0 0, .pointer none] 44))
 have s0 : (w.alloc (.cells #[.slice none 0 0, .pointer none] 44)).heap.size = w.heap.size + 1 := World.size_alloc ..
 have S0 := hide s0
 have RA := hide (fun u (b : Below w.heap.size w u) => rall24_any oa l c u (hE.below b) h hl)
 have HE := hide hE
 obtain ⟨n, hn⟩ : ∃ n, l.length = n := ⟨_, rfl⟩
 have RN := hide (Mx.rnew_ok n (by omega))
 have HN := hide hn
 obtain ⟨P, hP⟩ : ∃ P, eds l = P := ⟨_, rfl⟩
 have AH : Hid (∀ i k : Nat, i < n → k < n → hA l i k = Mx.rnds (Mx.hs (Mx.sets n (fun _ => 0) P)) n (Mx.hs (Mx.sets n (fun _ => 0) P) i) n k) := by
  show ∀ i k : Nat, i < n → k < n → _
  intro i k hi hk
  rw [Mx.reach_is _ _ _ _ hi hk, ← hP, ← hn]
  rfl
 have PE : Hid (P = (allS l).map fun x => ((x.f : Int), (x.t : Int))) := hP.symm
 obtain ⟨E, hEE⟩ : ∃ E, allS l = E := ⟨_, rfl⟩
 rw [hEE] at RA PE
 have PL : Hid (P.length = E.length) := by rw [PE.out]; exact List.length_map _
 obtain ⟨m, hm⟩ : ∃ m, E.length = m := ⟨_, rfl⟩
 have HM := hide hm
 rw [hn] at RA hl ⊢
 clear hE hn s0 hP hEE hm
 go_enter Tryz.func19, Tryz.ntmps19
 go_wp2_with fail
 refine (RN.out _).mono ?_
 rintro r w1 ⟨rfl, ⟨v1, bs1, x1⟩, b1⟩
 have B1 := hide (btr BX.out b1)
 have A1 := hide (RA.out w1 B1.out)
 rw [S0.out] at x1 b1
 have X1 := hide x1
 have T1 := hide (heap_below T0.out (by rw [S0.out]; exact b1))
 have Z1 : Hid (w.heap.size + 1 ≤ w1.heap.size) := by have := b1.size; rw [S0.out] at this; exact this
 rw [S0.out]
 obtain ⟨N, hN⟩ : ∃ N, w.heap.size + 1 = N := ⟨_, rfl⟩
 have HNN := hide hN
 rw [hN] at X1 Z1 ⊢
 clear x1 b1 RN hN
 go_wp2_with fail
 refine A1.out.mono ?_
 rintro r w2 ⟨v, rfl, o2, b2⟩
 obtain ⟨ea, ce, rfl, c1, c2⟩ := o2.sl
 have O2 := hide o2
 rw [HM.out] at O2 c1 ⊢
 have hm9 : m ≤ 9223372036854775807 := by unfold maxLen at c2; omega
 have B2 := hide (btr B1.out b2)
 have BN2 : Hid (Below N w1 w2) := b2.mono Z1.out
 have I0 : Hid (OfI w2 w2 N N P n (.int .i64 0) 0) := ⟨Nat.zero_le _, rfl, Below.refl _ _, v1, bs1, (X1.out.below b2).congr fun i k _ _ => by simp [Mx.sets, Mx.hs, Mx.noF]⟩
 have T2 := hide (heap_below T1.out b2)
 have Z2 : Hid (N ≤ w2.heap.size) := Nat.le_trans Z1.out b2.size
 clear A1 o2 c1 c2 b2
 go_wp2_with fail
 go_loopw [16] (fun iv wr => ∃ k : Nat, OfI w2 wr N N P n iv k ∧ Or wr w1.heap.size (.slice ea m ce) E) (fun iv _ => m - (intOf iv).toNat)
 case atStart => exact ⟨0, I0.out, O2.out⟩
 case round =>
  obtain ⟨k, I, OW⟩ := hrel
  have hkm : k ≤ m := by have := I.le; rw [PL.out, HM.out] at this; exact this
  obtain rfl := I.iv
  have HI := hide I
  have HO := hide OW
  have zr : N ≤ wr.heap.size := Nat.le_trans Z2.out I.bl.size
  have ZR := hide zr
  by_cases hlt : k < m
  ·obtain ⟨x, hx⟩ : ∃ x, E[k]? = some x := ⟨_, List.getElem?_eq_getElem (by rw [HM.out]; omega)⟩
   rw [← HM.out] at OW
   obtain ⟨g, rfl, q0, q1, q2⟩ := OW.cell hx
   have hlt' : (k : Int) < (m : Int) := by omega
   have HX := hide hx
   obtain ⟨v3, bs3, x3⟩ := I.rx
   have BE := hide (below_alloc wr (.cells #[.int .i64 (x.f : Int), .int .i64 (x.t : Int), .int .i64 (x.r : Int)] 36))
   have ST := hide (Mx.rset_any (x3.below BE.out) (x.f : Int) (x.t : Int))
   clear I hx OW x3 zr
   go_wp2_with fail
   refine ST.out.mono ?_
   rintro r w4 ⟨rfl, x4, b4, k4⟩
   have X4 := hide x4
   have B4 := hide b4
   have O4 : Hid (Or w4 w1.heap.size (.slice (some ⟨g, 0, none⟩) m ce) E) := by
    have o := HO.out
    have e : w4.heap[g]? = wr.heap[g]? := by
     rcases o.2 with ⟨q, -⟩ | ⟨g', cap, cur, q, -, hg, -⟩
     ·cases q
     ·cases q
      rw [hg]
      refine k4 g cur 36 ?_ (by decide)
      exact (BE.out.block g (heap_lt hg)).trans hg
    exact own_keepG HM.out o e
   clear x4 b4 k4 ST q0 q1 q2
   go_wp2_with fail
   go_roundw
   case measure => simp [intOf]; omega
   case rel =>
    refine ⟨k + 1, ⟨by have := HI.out.le; rw [PL.out, HM.out]; omega, by simp, (HI.out.bl.trans (BE.out.mono ZR.out)).trans B4.out, v3, bs3, ?_⟩, O4.out⟩
    have := X4.out
    rw [sets_next (l := P) (k := k) (p := ((x.f : Int), (x.t : Int))) (by rw [PE.out, List.getElem?_map, HX.out]; rfl), ← Mx.hs_setR]
    exact this
  ·have dl : decide ((k : Int) < (m : Int)) = false := by simp; omega
   have hk : k = m := by omega
   subst hk
   obtain ⟨v3, bs3, x3⟩ := I.rx
   rw [List.take_of_length_le (by rw [PL.out, HM.out]; exact Nat.le_refl _)] at x3
   have CL := hide (Mx.rclose_any x3 zr)
   clear I hlt OW x3 zr
   go_wp2_with fail
   refine CL.out.mono ?_
   rintro r w5 ⟨rfl, ⟨v5, bs5, x5⟩, b5, k5⟩
   have b25 : Below N w2 w5 := HI.out.bl.trans b5
   have B5 : Hid (Below w.heap.size w w5) := B2.out.trans (b25.mono (by have := HNN.out; omega))
   have T5 := hide ((b25.block w.heap.size (by have := HNN.out; omega)).trans T2.out)
   have X5 := hide (x5.congr (g := hA l) fun i k hi hk => AH.out i k hi hk)
   have r0 := cell_of T5.out 0
   have r1 := cell_of T5.out 1
   have f0 := frozen_of T5.out 0
   have f1 := frozen_of T5.out 1
   simp at r0 r1
   clear x5 b5 k5 b25 CL
   go_wp2_with fail
   have K := ((KB.refl w.heap.size w5).setCell 0 (.slice oa n c)).setCell 1 (.pointer (some ⟨N, 0, none⟩))
   have B7 := below_kb B5.out K (Nat.le_refl _) B5.out.size
   refine bodyPost_ret (En.results_row1 Tryz.results19 _ _ _ _ rfl (loadVar_ty (Ba.heap_setCell_same (Ba.heap_setCell_same T5.out (i := 0) (.slice oa n c)) (i := 1) (.pointer (some ⟨N, 0, none⟩))) rfl)) rfl ⟨N, rfl, ⟨?_, HE.out.below B7⟩, B7⟩
   rw [HN.out]
   have x7 := X5.out.kb K (by have := HNN.out; omega)
   exact ⟨v5, bs5, rx_base x7 (by have := HNN.out; omega)⟩
end Ax
end Go.Proofs.YtblfimobiibmjaaGreat
namespace Go.Proofs.YtblfimobiibmjaaGreat
open Go.ChangeShapes Go.WideShapes Go.ChangeAt Go.RowKit
namespace Gu
open En Ba
theorem cells_ev : Tryz.prog.cellsOf 50 = 8 := by kernel_rfl
theorem cells_bl : Tryz.prog.cellsOf 4 = 1 := by kernel_rfl
theorem fields8 : ∃ fs : Array Field, Tryz.prog.underlying 50 = some (.struct fs) ∧ fs.size = 8 ∧ (∃ f, fs[0]? = some f ∧ f.offset = 0 ∧ f.type = 3) ∧ (∃ f, fs[1]? = some f ∧ f.offset = 1 ∧ f.type = 3) ∧ (∃ f, fs[2]? = some f ∧ f.offset = 2 ∧ f.type = 3) ∧ (∃ f, fs[3]? = some f ∧ f.offset = 3 ∧ f.type = 3) ∧ (∃ f, fs[4]? = some f ∧ f.offset = 4 ∧ f.type = 3) ∧ (∃ f, fs[5]? = some f ∧ f.offset = 5 ∧ f.type = 3) ∧ (∃ f, fs[6]? = some f ∧ f.offset = 6 ∧ f.type = 4) ∧ (∃ f, fs[7]? = some f ∧ f.offset = 7 ∧ f.type = 4) :=
 ⟨_, Tryz.underlying50, rfl, ⟨_, rfl, rfl, rfl⟩, ⟨_, rfl, rfl, rfl⟩, ⟨_, rfl, rfl, rfl⟩, ⟨_, rfl, rfl, rfl⟩, ⟨_, rfl, rfl, rfl⟩, ⟨_, rfl, rfl, rfl⟩, ⟨_, rfl, rfl, rfl⟩, ⟨_, rfl, rfl, rfl⟩⟩
section
variable {H : Type} {enc : TypeId × Value → H} {w : World}
theorem ev_cells (n : Nat) (cs : List Value) (x : DataW H × List MemPlace) (h : DataW.trod enc Tryz.prog w 0 (fun _ => true) true n 50 cs = some x) : ∃ e : Ev, ∀ j, j < 8 → cs[j]? = (evc e)[j]? := by
 obtain ⟨fs, hu, hsz, F0, F1, F2, F3, F4, F5, F6, F7⟩ := fields8
 obtain ⟨xs, k, _, _, _, hxl, hff⟩ := DataW.trod_struct hu h
 rw [hsz] at hxl
 obtain ⟨f0, g0, o0, t0⟩ := F0
 have h0 := hff 0 f0 g0
 rw [o0, t0, cells_int] at h0
 obtain ⟨f1, g1, o1, t1⟩ := F1
 have h1 := hff 1 f1 g1
 rw [o1, t1, cells_int] at h1
 obtain ⟨f2, g2, o2, t2⟩ := F2
 have h2 := hff 2 f2 g2
 rw [o2, t2, cells_int] at h2
 obtain ⟨f3, g3, o3, t3⟩ := F3
 have h3 := hff 3 f3 g3
 rw [o3, t3, cells_int] at h3
 obtain ⟨f4, g4, o4, t4⟩ := F4
 have h4 := hff 4 f4 g4
 rw [o4, t4, cells_int] at h4
 obtain ⟨f5, g5, o5, t5⟩ := F5
 have h5 := hff 5 f5 g5
 rw [o5, t5, cells_int] at h5
 obtain ⟨f6, g6, o6, t6⟩ := F6
 have h6 := hff 6 f6 g6
 rw [o6, t6, cells_bl] at h6
 obtain ⟨f7, g7, o7, t7⟩ := F7
 have h7 := hff 7 f7 g7
 rw [o7, t7, cells_bl] at h7
 rw [List.getElem?_eq_getElem (by omega)] at h0 h1 h2 h3 h4 h5 h6 h7
 obtain ⟨a0, q0, _⟩ := DataW.trod_int Tryz.underlying3 h0
 obtain ⟨a1, q1, _⟩ := DataW.trod_int Tryz.underlying3 h1
 obtain ⟨a2, q2, _⟩ := DataW.trod_int Tryz.underlying3 h2
 obtain ⟨a3, q3, _⟩ := DataW.trod_int Tryz.underlying3 h3
 obtain ⟨a4, q4, _⟩ := DataW.trod_int Tryz.underlying3 h4
 obtain ⟨a5, q5, _⟩ := DataW.trod_int Tryz.underlying3 h5
 obtain ⟨a6, q6, _⟩ := DataW.trod_bool Tryz.underlying4 h6
 obtain ⟨a7, q7, _⟩ := DataW.trod_bool Tryz.underlying4 h7
 refine ⟨⟨a0, a1, a2, a3, a4, a5, a6, a7⟩, fun j hj => ?_⟩
 match j, hj with
 | 0, _ => exact one_of q0
 | 1, _ => exact one_of q1
 | 2, _ => exact one_of q2
 | 3, _ => exact one_of q3
 | 4, _ => exact one_of q4
 | 5, _ => exact one_of q5
 | 6, _ => exact one_of q6
 | 7, _ => exact one_of q7
theorem events_open {n : Nat} {oa : Option Addr} {len cap : Nat} {x : DataW H × List MemPlace} (h : DataW.trod enc Tryz.prog w 0 (fun _ => true) true n 22 [.slice oa len cap] = some x) : ∃ l : List Ev, l.length = len ∧ EsAt w oa l ∧ len ≤ cap ∧ cap ≤ maxLen := by
 rcases Go.Deep.open_slice Tryz.underlying22 h with ⟨hcs, _⟩ | ⟨a, len', cap', m', n', D, Pl, hcs, _, hl, hm, hmm, _, hel⟩
 ·simp at hcs
  obtain ⟨rfl, rfl, rfl⟩ := hcs
  exact ⟨[], rfl, EsAt.nil _ _, Nat.le_refl _, Nat.zero_le _⟩
 ·simp at hcs
  obtain ⟨rfl, rfl, rfl⟩ := hcs
  have hmc : m' = cap := by simpa using hmm
  subst hmc
  have key : ∀ i, i < len → ∃ e : Ev, ∀ j, j < 8 → w.cell? ((a.add (i * 8)).add j) = (evc e)[j]? := by
   intro i hi
   obtain ⟨cs', h1, h2⟩ := hel i (by omega)
   rw [cells_ev] at h1
   obtain ⟨_, _, hcell⟩ := World.cells?_some h1
   obtain ⟨e, he⟩ := ev_cells _ _ _ h2
   exact ⟨e, fun j hj => (hcell j hj).trans (he j hj)⟩
  have fam : ∃ f : Nat → Ev, ∀ i, i < len → ∀ j, j < 8 → w.cell? ((a.add (i * 8)).add j) = (evc (f i))[j]? := by
   refine ⟨fun i => if hi : i < len then Classical.choose (key i hi) else ev0, fun i hi => ?_⟩
   simp only [dif_pos hi]
   exact Classical.choose_spec (key i hi)
  obtain ⟨f, hf⟩ := fam
  refine ⟨(List.range len).map f, by simp, ?_, hl, hm⟩
  intro k c hk
  have hk2 : k < len := by
   have := (List.getElem?_eq_some_iff.1 hk).1
   simpa using this
  have hc : c = f k := by
   simp [hk2] at hk
   exact hk.symm
  subst hc
  have hspot : a.spot = none := by
   obtain ⟨v, hv⟩ := evc_some (f 0) 0 (by decide)
   have := hf 0 (by omega) 0 (by decide)
   rw [hv] at this
   have := World.cell?_spot this
   simpa [Addr.add] using this
  obtain ⟨b, off, spot⟩ := a
  simp at hspot
  subst hspot
  refine ⟨b, off, rfl, fun j hj => ?_⟩
  have := hf k hk2 j hj
  rw [Addr.add_lit, Addr.add_lit] at this
  exact this
theorem events_openC {n : Nat} {oa : Option Addr} {len cap : Nat} {x : DataW H × List MemPlace} (h : DataW.trod enc Tryz.prog w 0 (fun _ => true) true n 22 [.slice oa len cap] = some x) : ∃ l : List Ev, l.length = len ∧ (EsAt w oa l ∧ len ≤ cap) ∧ len ≤ cap ∧ cap ≤ maxLen := by
 obtain ⟨l, h1, h2, h3, h4⟩ := events_open h
 exact ⟨l, h1, ⟨h2, h3⟩, h3, h4⟩
end
end Gu
end Go.Proofs.YtblfimobiibmjaaGreat
