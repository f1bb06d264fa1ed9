import Derived.Test.YtblfimobiibmjaaGreatZjAh19
import Derived.Test.YtblfimobiibmjaaGreatAxg
import Derived.Test.YtblfimobiibmjaaGreatAxl
namespace Go.Proofs.YtblfimobiibmjaaGreat
open Go.ChangeShapes Go.WideShapes Go.ChangeAt Go.RowKit
namespace Ax
open En Gu Eg Ba
theorem lv_is {l : List Ev} {h : Nat} (x : h < there l) : lvF l (h : Int) l.length = !exF l (h : Int) l.length := by
 unfold lvF
 rw [List.take_length, show decide ((h : Int) < (there l : Int)) = true by simp; omega, Bool.true_and]
theorem lv_out {l : List Ev} {h : Nat} (x : there l ≤ h) : lvF l (h : Int) l.length = false := by
 unfold lvF
 rw [List.take_length, show decide ((h : Int) < (there l : Int)) = false by simp; omega, Bool.false_and]
theorem kn_skip {A : Nat → Nat → Bool} {l : List Ev} {g : Int} {h : Nat} (x : lvF l (h : Int) l.length = false) : knL A l g (min (h + 1) (there l)) = knL A l g (min h (there l)) := by
 by_cases q : h < there l
 ·rw [lv_is q] at x
  rw [show min (h + 1) (there l) = h + 1 by omega, show min h (there l) = h by omega, knl_succ, if_pos (by simpa using x), List.append_nil]
 ·rw [show min (h + 1) (there l) = there l by omega, show min h (there l) = there l by omega]
theorem kn_add {A : Nat → Nat → Bool} {l : List Ev} {g : Int} {h p : Nat} (x : lvF l (h : Int) l.length = true) (hp : latF l (h : Int) l.length = some p) : h < there l ∧ knL A l g (min (h + 1) (there l)) = knL A l g (min h (there l)) ++ [knF A l p g] := by
 have q : h < there l := by
  by_cases q : h < there l
  ·exact q
  ·rw [lv_out (by omega)] at x
   cases x
 rw [lv_is q] at x
 refine ⟨q, ?_⟩
 rw [show min (h + 1) (there l) = h + 1 by omega, show min h (there l) = h by omega, knl_succ, if_neg (by intro z; rw [z] at x; cases x), hp]
 rfl
theorem kn_mono {A : Nat → Nat → Bool} {l : List Ev} {g : Int} {a b x : Nat} (h : a ≤ b) (hx : x ∈ knL A l g a) : x ∈ knL A l g b := by
 obtain ⟨d, rfl⟩ := Nat.exists_eq_add_of_le h
 clear h
 induction d with
 | zero => exact hx
 | succ d ih =>
   rw [← Nat.add_assoc, knl_succ]
   exact List.mem_append.2 (.inl ih)
theorem Al.mem {L : List Nat} {c : Nat} (h : Al L (c : Int)) : c ∈ L := by
 rcases h with ⟨-, h⟩ | ⟨d, h1, h2, h3⟩
 ·omega
 ·cases L with
  | nil => exact absurd rfl h2
  | cons a t =>
    have := h3 a (by simp)
    rw [show c = a by omega]
    simp
set_option maxRecDepth 100000 in
set_option maxHeartbeats 12800000 in
theorem rsettled_any (w : World) (N G : Nat) (oa : Option Addr) (l : List Ev) (c g : Nat) (T : TR w N G oa l) (tk : Tok l) (hl : l.length ≤ 100) (hc : l.length ≤ c) (hg : g < there l) :
 Calls Tryz.prog 31 #[(.agg #[.slice oa l.length c, .pointer (some ⟨G, 0, none⟩)]), .int .i64 (g : Int)] w fun r w' => r = .returned (.int .i64 (setV (hA l) l (g : Int))) ∧ Below w.heap.size w w' := by
 have LK := hide (fun (h : Nat) (u : World) (b : Below w.heap.size w u) => look_any u N G oa l c (h : Int) (T.below b) tk hl hc (by omega))
 have KN := hide (fun (k : Nat) (hk : k < l.length) (u : World) (b : Below w.heap.size w u) => rkn_any u N G oa l c k (g : Int) (T.below b) hl hk)
 have HL := hide (fun (u : World) (b : Below w.heap.size w u) => rheld_any u N G oa l c (T.below b) tk hl hc)
 have LG := hide (lv_is hg)
 have TH : there l ≤ 101 := by have := Eg.there_le l; omega
 have BX := hide (below_alloc w (.cells #[.slice oa l.length c, .pointer (some ⟨G, 0, none⟩)] 44))
 have X0 := hide (heap_new w (.cells #[.slice oa l.length c, .pointer (some ⟨G, 0, none⟩)] 44))
 have RL : (heldR l).length ≤ 30000 := by
  have := hr_len l hl l.length
  rw [show hrF l l.length = heldR l from rfl] at this
  omega
 have RL := hide RL
 have KN0 : Hid (∀ k, knF (hA l) l k (g : Int) ≤ 1000) := by
  intro k
  have h1 := num_le l k (g : Int)
  unfold knF
  split
  ·omega
  ·have := (stp_rng l (g : Int) (Mx.ps (fun j => hA l j k) l.length) 0 (by omega)).2
   have e := most_fold (hA l) l k (g : Int) l.length
   omega
 cases hx : exF l (g : Int) l.length
 ·have SV : Hid (setV (hA l) l (g : Int) = -1) := by
   show _ = _
   unfold setV
   rw [set_off hx]
  have LV : Hid (lvF l (g : Int) l.length = true) := by
   show _ = _
   rw [LG.out, hx]
   rfl
  have L1 := hide (LK.out g)
  rw [SV.out]
  rw [LV.out] at L1
  obtain ⟨n, hn⟩ : ∃ n, l.length = n := ⟨_, rfl⟩
  rw [hn] at BX X0 L1 ⊢
  obtain ⟨tb, htb⟩ : ∃ b, decide ((g : Int) < (there l : Int)) = b := ⟨_, rfl⟩
  obtain ⟨ab, hab⟩ : ∃ b, rfi (latF l (g : Int) n) = b := ⟨_, rfl⟩
  rw [htb, hab] at L1
  clear T tk hn hx LG LK KN HL KN0 htb hab hg hc hl TH
  go_enter Tryz.func31, Tryz.ntmps31
  go_upto_region 1 with fail
  generalize w.alloc (.cells #[.slice oa n c, .pointer (some ⟨G, 0, none⟩)] 44) = w1 at *
  have t0 : w1.cell? ⟨w.heap.size, 0, none⟩ = some (.slice oa n c) := cell_of X0.out 0
  have t1 : w1.cell? ⟨w.heap.size, 1, none⟩ = some (.pointer (some ⟨G, 0, none⟩)) := cell_of X0.out 1
  go_wp2_with fail
  refine (L1.out w1 BX.out).mono ?_
  rintro r w2 ⟨s, rfl, b2⟩
  have B2 := hide (btr BX.out b2)
  clear b2
  go_wp2_with fail
  change (_ : Act → World → Prop) (Act.put _ _ (Value.bool true)) _
  go_wp2_with fail
  go_ret
  exact ⟨rfl, B2.out⟩
 ·have TW := hide (fun x y (h1 : x ∈ knL (hA l) l (g : Int) (there l)) (h2 : y ∈ knL (hA l) l (g : Int) (there l)) (hne : x ≠ y) => set_two h1 h2 hne)
  have SA := hide (fun cut (h : Al (knL (hA l) l (g : Int) (there l)) cut) => set_al hx h)
  have LI := hide (fun y (hy : y < there l) => liv_some tk hx hy)
  have MO := hide (fun c => more_iff (A := hA l) tk hx c)
  have HO := hide (fun p (hp : p ∈ heldR l) => heldR_ok tk hx hp)
  have LV : Hid (lvF l (g : Int) l.length = false) := by
   show _ = _
   rw [LG.out, hx]
   rfl
  have L1 := hide (LK.out g)
  rw [LV.out] at L1
  obtain ⟨n, hn⟩ : ∃ n, l.length = n := ⟨_, rfl⟩
  have HN := hide hn
  rw [hn] at BX X0 L1 LK KN HL LI HO ⊢
  obtain ⟨tb, htb⟩ : ∃ b, decide ((g : Int) < (there l : Int)) = b := ⟨_, rfl⟩
  obtain ⟨ab, hab⟩ : ∃ b, rfi (latF l (g : Int) n) = b := ⟨_, rfl⟩
  rw [htb, hab] at L1
  have TH := hide TH
  clear T tk hn hx LG htb hab hg hc hl LV
  go_enter Tryz.func31, Tryz.ntmps31
  go_upto_region 1 with fail
  generalize w.alloc (.cells #[.slice oa n c, .pointer (some ⟨G, 0, none⟩)] 44) = w1 at *
  have t0 : w1.cell? ⟨w.heap.size, 0, none⟩ = some (.slice oa n c) := cell_of X0.out 0
  have t1 : w1.cell? ⟨w.heap.size, 1, none⟩ = some (.pointer (some ⟨G, 0, none⟩)) := cell_of X0.out 1
  go_wp2_with fail
  refine (L1.out w1 BX.out).mono ?_
  rintro r w2 ⟨s, rfl, b2⟩
  have B2 := hide (btr BX.out b2)
  have X2 := hide (heap_below X0.out b2)
  clear b2 t0 t1 X0 BX L1
  go_wp2_with fail
  change (_ : Act → World → Prop) (Act.put _ _ (Value.bool false)) _
  go_wp2_with fail
  go_loopw [5, 6] (fun cv hv wr => ∃ (h : Nat) (cut : Int), h ≤ 512 ∧ hv = .int .i64 (h : Int) ∧ cv = .int .i64 cut ∧ -1 ≤ cut ∧ cut ≤ 1000 ∧ Al (knL (hA l) l (g : Int) (min h (there l))) cut ∧ Below w2.heap.size w2 wr) (fun _ hv _ => 512 - (intOf hv).toNat)
  case atStart => exact ⟨0, -1, by omega, rfl, rfl, by omega, by omega, .inl ⟨by rw [Nat.zero_min]; rfl, rfl⟩, Below.refl _ _⟩
  case round =>
   obtain ⟨h, cut, hh, rfl, rfl, c0, c1, al, bl⟩ := hrel
   have AL := hide al
   have BL := hide (btr B2.out bl)
   have X3 := hide (heap_below X2.out bl)
   have t0 := cell_of X3.out 0
   have t1 := cell_of X3.out 1
   simp at t0 t1
   have BL2 := hide bl
   clear al bl
   by_cases hlt : h < 512
   ·have hlt' : (h : Int) < 512 := by omega
    have L2 := hide (LK.out h wr BL.out)
    obtain ⟨tb2, htb2⟩ : ∃ b, decide ((h : Int) < (there l : Int)) = b := ⟨_, rfl⟩
    rw [htb2] at L2
    cases hlv : lvF l (h : Int) n
    ·have SK := hide (kn_skip (A := hA l) (g := (g : Int)) (by rw [HN.out]; exact hlv))
     rw [hlv] at L2
     obtain ⟨ab, hab⟩ : ∃ b, rfi (latF l (h : Int) n) = b := ⟨_, rfl⟩
     rw [hab] at L2
     clear hlv hab htb2
     go_wp2_with fail
     refine L2.out.mono ?_
     rintro r w4 ⟨s4, rfl, b4⟩
     have B4 := hide (btr BL2.out b4)
     clear t0 t1 b4 L2
     go_wp2_with fail
     go_roundw
     case measure => simp [intOf]; omega
     case rel => exact ⟨h + 1, cut, by omega, by simp, rfl, c0, c1, by rw [SK.out]; exact AL.out, btr B4.out (below_alloc _ _)⟩
    ·have hq : h < there l := by
      by_cases q : h < there l
      ·exact q
      ·have := lv_out (l := l) (h := h) (by omega)
       rw [HN.out, hlv] at this
       cases this
     obtain ⟨p, hp, hpn, -⟩ := LI.out h hq
     have KA := hide (kn_add (A := hA l) (g := (g : Int)) (by rw [HN.out]; exact hlv) (by rw [HN.out]; exact hp)).2
     have KN2 := hide (KN.out p hpn)
     obtain ⟨m, hm⟩ : ∃ m, knF (hA l) l p (g : Int) = m := ⟨_, rfl⟩
     have m1 : m ≤ 1000 := by rw [← hm]; exact KN0.out p
     rw [hlv, hp, show rfi (some p) = (p : Int) from rfl] at L2
     rw [hm] at KA KN2
     have p0 : (p : Int) ≥ 0 := by omega
     clear hlv hp htb2 hm
     go_wp2_with fail
     refine L2.out.mono ?_
     rintro r w4 ⟨s4, rfl, b4⟩
     have B4 := hide (btr BL2.out b4)
     have X4 := hide (heap_below X3.out b4)
     clear t0 t1 b4 L2
     go_upto_region 8 with fail
     have B5 := hide (btr B4.out (below_alloc w4 (.cells #[.bool tb2, .bool true, .bool s4, .int .i64 (p : Int)] 57)))
     have X5 := hide (heap_below X4.out (below_alloc w4 (.cells #[.bool tb2, .bool true, .bool s4, .int .i64 (p : Int)] 57)))
     have D5 := hide (heap_new w4 (.cells #[.bool tb2, .bool true, .bool s4, .int .i64 (p : Int)] 57))
     generalize w4.alloc (.cells #[.bool tb2, .bool true, .bool s4, .int .i64 (p : Int)] 57) = w5 at *
     have t0 := cell_of X5.out 0
     have t1 := cell_of X5.out 1
     have d1 := cell_of D5.out 1
     have d3 := cell_of D5.out 3
     simp at t0 t1 d1 d3
     go_wp2_with fail
     refine (KN2.out w5 (btr B2.out B5.out)).mono ?_
     rintro r w6 ⟨rfl, b6⟩
     have B6 := hide (btr B5.out b6)
     clear b6 t0 t1 d1 d3 KN2 X4 X5 D5
     by_cases cc : cut = -1
     ·subst cc
      go_wp2_with fail
      go_roundw
      case measure => simp [intOf]; omega
      case rel => exact ⟨h + 1, (m : Int), by omega, by simp, rfl, by omega, by omega, by rw [KA.out]; exact AL.out.add (.inl rfl), B6.out⟩
     ·obtain ⟨d, rfl⟩ : ∃ d : Nat, cut = (d : Int) := ⟨cut.toNat, by omega⟩
      have g0 : (d : Int) ≥ 0 := by omega
      by_cases e : m = d
      ·subst e
       have ne : ((m : Int) != (m : Int)) = false := by simp
       go_wp2_with fail
       go_roundw
       case measure => simp [intOf]; omega
       case rel => exact ⟨h + 1, (m : Int), by omega, by simp, rfl, by omega, by omega, by rw [KA.out]; exact AL.out.add (.inr rfl), B6.out⟩
      ·have ne : ((m : Int) != (d : Int)) = true := by simp; omega
       have FIN : Hid (setV (hA l) l (g : Int) = -1) := by
        show _ = _
        unfold setV
        rw [TW.out m d (kn_mono (a := min (h + 1) (there l)) (by omega) (by rw [KA.out]; simp)) (kn_mono (a := min h (there l)) (by omega) AL.out.mem) e]
       clear e
       go_wp2_with fail
       go_ret
       exact ⟨by rw [FIN.out]; rfl, btr B2.out B6.out⟩
   ·obtain rfl : h = 512 := by omega
    have AT : Hid (Al (knL (hA l) l (g : Int) (there l)) cut) := by
     have q := AL.out
     rw [show min 512 (there l) = there l by have := TH.out; omega] at q
     exact q
    have H1 := hide (HL.out wr BL.out)
    clear AL
    go_wp2_with fail
    refine H1.out.mono ?_
    rintro r w6 ⟨v, rfl, o6, b6⟩
    obtain ⟨ea, ca, rfl, -, -⟩ := o6.sl
    have O6 := hide o6
    have B6 := hide (btr BL.out b6)
    have X6 := hide (heap_below X3.out b6)
    obtain ⟨R, hR⟩ : ∃ R, heldR l = R := ⟨_, rfl⟩
    rw [hR] at O6 MO HO RL ⊢
    obtain ⟨m, hm⟩ : ∃ m, R.length = m := ⟨_, rfl⟩
    have HM := hide hm
    have m3 : m ≤ 30000 := by rw [← hm]; exact RL.out
    rw [hm]
    clear b6 o6 H1 t0 t1 hR hm
    go_wp2_with fail
    go_loopw [44] (fun iv wp => ∃ j : Nat, j ≤ m ∧ iv = .int .i64 (j : Int) ∧ (∀ (i x : Nat), i < j → R[i]? = some x → (knF (hA l) l x (g : Int) : Int) ≤ cut) ∧ Below w6.heap.size w6 wp) (fun iv _ => m - (intOf iv).toNat)
    case atStart => exact ⟨0, Nat.zero_le _, rfl, fun i x hi => absurd hi (Nat.not_lt_zero _), Below.refl _ _⟩
    case round =>
     rename World => wp
     obtain ⟨j, hj, rfl, ok, bp⟩ := hrel
     have OK := hide ok
     have BP := hide bp
     clear ok bp
     by_cases hlj : j < m
     ·have hlj' : (j : Int) < (m : Int) := by omega
      have j0 : (0 : Int) ≤ (j : Int) := by omega
      obtain ⟨x, hx⟩ : ∃ x, R[j]? = some x := ⟨_, List.getElem?_eq_getElem (by rw [HM.out]; exact hlj)⟩
      have OP := O6.out.below BP.out
      obtain ⟨gs, rfl, s0⟩ := OP.cell hx
      have X7 := hide (heap_below X6.out BP.out)
      have t0 := cell_of X7.out 0
      have t1 := cell_of X7.out 1
      simp at t0 t1
      have KN2 := hide (KN.out x (HO.out x (List.mem_of_getElem? hx)).1 wp (btr B6.out BP.out))
      obtain ⟨z, hz⟩ : ∃ z, knF (hA l) l x (g : Int) = z := ⟨_, rfl⟩
      have HZ := hide hz
      have HX := hide hx
      rw [hz] at KN2
      clear hx hz OP
      by_cases q : (z : Int) > cut
      ·have FIN : Hid (setV (hA l) l (g : Int) = -1) := by
        show _ = _
        rw [SA.out cut AT.out, if_pos]
        by_cases cc : cut = -1
        ·exact .inl cc
        ·exact .inr ((MO.out cut.toNat).2 ⟨x, List.mem_of_getElem? HX.out, by rw [HZ.out]; omega⟩)
       have dq : decide ((z : Int) > cut) = true := by simpa using q
       clear q
       go_wp2_with fail
       refine KN2.out.mono ?_
       rintro r w8 ⟨rfl, b8⟩
       have B8 := hide (btr B6.out (btr BP.out b8))
       clear b8 t0 t1 s0
       go_wp2_with fail
       go_ret
       exact ⟨by rw [FIN.out]; rfl, B8.out⟩
      ·have dq : decide ((z : Int) > cut) = false := by simpa using q
       have Q := hide q
       clear q
       go_wp2_with fail
       refine KN2.out.mono ?_
       rintro r w8 ⟨rfl, b8⟩
       have B8 := hide (btr BP.out b8)
       clear b8 t0 t1 s0
       go_wp2_with fail
       go_roundw
       case measure => simp [intOf]; omega
       case rel => exact ⟨j + 1, by omega, by simp, fun i y hi hy => by
        by_cases e : i = j
        ·rw [e, HX.out] at hy
         cases hy
         rw [HZ.out]
         have := Q.out
         omega
        ·exact OK.out i y (by omega) hy, B8.out⟩
     ·obtain rfl : j = m := by omega
      have FIN : Hid (setV (hA l) l (g : Int) = cut) := by
       show _ = _
       rw [SA.out cut AT.out]
       by_cases cc : cut = -1
       ·rw [if_pos (.inl cc), cc]
       ·rw [if_neg]
        rintro (z | z)
        ·exact cc z
        ·obtain ⟨p, hp, hlt2⟩ := (MO.out cut.toNat).1 z
         obtain ⟨i, hi⟩ := List.getElem?_of_mem hp
         have := OK.out i p (by have := (List.getElem?_eq_some_iff.1 hi).1; rw [HM.out] at this; exact this) hi
         omega
      clear hlj
      go_wp2_with fail
      go_ret
      exact ⟨by rw [FIN.out]; rfl, btr B6.out BP.out⟩
end Ax
end Go.Proofs.YtblfimobiibmjaaGreat
