/- What is settled among many is settled among some of them, with the same cut. -/
import Derived.Test.YtbceiakihplbcaaTa9
import Derived.Deep.Cut
import Derived.Deep.RegionHeld3
import Derived.ShutString
import Derived.ChangeOld
import Derived.Below
namespace Go.Proofs.Ytbceiakihplbcaa.retireFewer
open Go.ChangeShapes Go.WideShapes Go.ChangeAt Go.RowKit
open Go.ChangeMaps (open_string shut_string)
open Rt Ck

theorem own : ownKnob Try.prog.godebug = none := by kernel_rfl
theorem laidOut : laidOutB Try.prog = true := by kernel_rfl

set_option maxRecDepth 100000 in
set_option maxHeartbeats 6400000 in
theorem core {w : World} (tid : Int) (oa : Option Addr) (a : List (List Int)) (c : Nat) (hA : Ba.GAt w oa 1 (LE w) a) (hM : a.length ≤ maxLen) (ob : Option Addr) (b : List (List Int)) (d : Nat) (hB : Ba.GAt w ob 1 (LE w) b) (hM2 : b.length ≤ maxLen) :
    Calls Try.prog 6 #[.int .i64 tid, .slice oa a.length c, .slice ob b.length d] w fun r w' => r = .returned (.bool true) ∧ Below w.heap.size w w' := by
  have LG := hide (large_any oa ob a b a.length b.length c d rfl rfl w hA hB hM hM2)
  have SE := hide settled_any
  have AA := hide (fun u (bu : Below w.heap.size w u) (h : a.length ≤ 60) => all_read2 u oa a a.length c rfl (by omega) (GAt.keep hA bu))
  have AB := hide (fun u (bu : Below w.heap.size w u) (h : b.length ≤ 60) => all_read2 u ob b b.length d rfl (by omega) (GAt.keep hB bu))
  clear hA hB
  unfold LgR at LG
  obtain ⟨n, hn⟩ : ∃ n, a.length = n := ⟨_, rfl⟩
  obtain ⟨m, hm⟩ : ∃ m, b.length = m := ⟨_, rfl⟩
  rw [hn] at LG AA ⊢
  rw [hm] at LG AB ⊢
  have zr := zero_ref
  have rs := ra_size nf
  have rsF := fun F => ra_size F
  go_enter Try.func6, Try.ntmps6
  go_wp2_with fail
  refine LG.out.mono ?_
  rintro r w0 ⟨z, rfl, hz, e0⟩
  obtain rfl := e0.symm
  cases z
  · obtain ⟨hn60, hm60⟩ := hz rfl
    have A1 := hide (AA.out w (Below.refl _ _) hn60)
    have A2 := hide (fun u bu => AB.out u bu hm60)
    clear AA AB LG hz
    unfold AlS at A1 A2
    go_wp2_with fail
    refine A1.out.mono ?_
    rintro r w1 ⟨oC, cC, oW, cW, n1, ks, rfl, ka, ra1, hk1, hl1, hn1, b1, hc1, hc2⟩
    have B1 := hide (Rt.btr b1 (Ba.below_alloc w1 (.cells #[.slice oC n1 cC, .slice oW n1 cW] 28)))
    have KA := hide ka
    have RA1 := hide ra1
    have H7 : Hid ((w1.alloc (.cells #[.slice oC n1 cC, .slice oW n1 cW] 28)).heap[w1.heap.size]? = some (.cells #[.slice oC n1 cC, .slice oW n1 cW] 28 (0, 0))) := heap_new _ _
    have A2b := hide (A2.out _ B1.out)
    clear ka ra1 b1 A1 A2
    go_wp2_with fail
    refine A2b.out.mono ?_
    rintro r w2 ⟨oD, cD, oX, cX, n2, hs, rfl, kb, rb, hk2, hl2, hn2, b2, -, -⟩
    have bb := Rt.btr b2 (Ba.below_alloc w2 (.cells #[.slice oD n2 cD, .slice oX n2 cX] 28))
    have B2 := hide (Rt.btr B1.out bb)
    have b12 := Rt.btr (Ba.below_alloc w1 (.cells #[.slice oC n1 cC, .slice oW n1 cW] 28)) bb
    have KA2 := hide (KA.out.below b12)
    have RA2 := hide (RA1.out.below b12)
    have KB2 := hide (kb.below (Ba.below_alloc w2 (.cells #[.slice oD n2 cD, .slice oX n2 cX] 28)))
    have RB2 := hide (rb.below (Ba.below_alloc w2 (.cells #[.slice oD n2 cD, .slice oX n2 cX] 28)))
    have H72 := hide ((bb.block w1.heap.size (Ba.heap_lt H7.out)).trans H7.out)
    have H82 : Hid ((w2.alloc (.cells #[.slice oD n2 cD, .slice oX n2 cX] 28)).heap[w2.heap.size]? = some (.cells #[.slice oD n2 cD, .slice oX n2 cX] 28 (0, 0))) := heap_new _ _
    clear kb rb b2 bb b12 KA RA1 H7 A2b B1
    go_upto_region 5 with fail
    generalize w2.alloc (.cells #[.slice oD n2 cD, .slice oX n2 cX] 28) = w3 at *
    generalize w2.heap.size = T8 at *
    generalize w1.heap.size = T7 at *
    have q0 := cell_of H72.out 0
    have q1 := cell_of H82.out 0
    simp at q0 q1
    have OF1 := hide (Rt.of_any tid oC oD cC cD n1 n2 ks hs hl1 hl2 w3 KA2.out KB2.out (by omega) (by omega))
    rw [hk1, hk2] at OF1
    have hc3 : cC ≤ 9223372036854775807 := by simp only [maxLen] at hc2; omega
    have hcn : (n1 : Int) ≤ (cC : Int) := by omega
    unfold ofV at OF1
    obtain ⟨o, ho⟩ : ∃ o, cutOf tid (lsF a) (lsF b) = o := ⟨_, rfl⟩
    rw [ho] at OF1
    cases o with
    | none =>
      simp only [Option.getD_none, Option.isSome_none] at OF1
      go_wp2_with fail
      refine OF1.out.mono ?_
      rintro r w4 ⟨rfl, b4⟩
      have B4 := hide (Rt.btr B2.out b4)
      clear b4
      go_wp2_with fail
      refine (SE.out _).mono ?_
      rintro r w7 ⟨rfl, b7⟩
      have B7 := hide (Rt.btr B4.out b7)
      clear b7
      go_wp2_with fail
      go_ret
      exact ⟨rfl, B7.out⟩
    | some cut =>
      simp only [Option.getD_some, Option.isSome_some] at OF1
      by_cases hn2' : n1 < 2
      · have hn2i : (n1 : Int) < 2 := by omega
        go_wp2_with fail
        refine OF1.out.mono ?_
        rintro r w4 ⟨rfl, b4⟩
        have B4 := hide (Rt.btr B2.out b4)
        have q0 := cell_of ((b4.block T7 (Ba.heap_lt H72.out)).trans H72.out) 0
        simp at q0
        clear b4
        go_wp2_with fail
        refine (SE.out _).mono ?_
        rintro r w7 ⟨rfl, b7⟩
        have B7 := hide (Rt.btr B4.out b7)
        clear b7
        go_wp2_with fail
        go_ret
        exact ⟨rfl, B7.out⟩
      · have hn2i : ¬ ((n1 : Int) < 2) := by omega
        obtain ⟨z1, z2, ks', rfl⟩ : ∃ z1 z2 ks', ks = z1 :: z2 :: ks' := by
          match ks, hl1 with
          | [], h => simp at h; omega
          | [_], h => simp at h; omega
          | z1 :: z2 :: ks', _ => exact ⟨z1, z2, ks', rfl⟩
        obtain ⟨g, off, rfl, -⟩ := KA2.out 0 z1 rfl
        have hc : cutOf tid ((z1 :: z2 :: ks').map Prod.snd) (lsF b) = some cut := by rw [hk1]; exact ho
        have e1 : cutOf tid ((z2 :: ks').map Prod.snd) (hs.map Prod.snd) = some cut := by rw [hk2]; exact cut_tail hc
        have e2 : cutOf tid ((z1 :: z2 :: ks').map Prod.snd) (([] : List (Nat × List Int)).map Prod.snd) = some cut := cut_nil hc
        have OF2 := hide (fun u (bu : Below w3.heap.size w3 u) => Rt.of_any tid (some ⟨g, off + 1, none⟩) oD (cC - 1) cD (n1 - 1) n2 (z2 :: ks') hs (by rw [← hl1]; simp) hl2 u (KA2.out.tail.below bu) (KB2.out.below bu) (by have := hl1; simp at this ⊢; omega) (by omega))
        rw [e1] at OF2
        have OF3 := hide (fun u (bu : Below w3.heap.size w3 u) => Rt.of_any tid (some ⟨g, off, none⟩) none cC 0 n1 0 (z1 :: z2 :: ks') [] hl1 rfl u (KA2.out.below bu) (fun k z hk => by simp at hk) (by omega) (by simp))
        rw [e2] at OF3
        unfold ofV at OF2 OF3
        simp only [Option.getD_some, Option.isSome_some] at OF2 OF3
        have hge : (1 : Int) ≤ (n1 : Int) := by omega
        have hge' : (1 : Nat) ≤ n1 := by omega
        have hcc : ¬ (cC = 1) := by omega
        clear hc e1 e2 ho
        go_wp2_with fail
        refine OF1.out.mono ?_
        rintro r w4 ⟨rfl, b4⟩
        have B4 := hide b4
        have X7 : Hid (∀ u, Below w4.heap.size w4 u → u.cell? ⟨T7, 0, none⟩ = some (.slice (some ⟨g, off, none⟩) n1 cC) ∧ u.cell? ⟨T8, 0, none⟩ = some (.slice oD n2 cD)) := fun u bu => ⟨cell_of (((Rt.btr b4 bu).block T7 (Ba.heap_lt H72.out)).trans H72.out) 0, cell_of (((Rt.btr b4 bu).block T8 (Ba.heap_lt H82.out)).trans H82.out) 0⟩
        obtain ⟨q0, q1⟩ := X7.out w4 (Below.refl _ _)
        have OF2b := hide (OF2.out w4.drew (Rt.btr b4 (Ba.bdrew1 w4)))
        clear b4 OF1 OF2
        go_upto_region 8 with fail
        go_region_held3 (fun w' => w'.cell? ⟨T7, 0, none⟩ = some (.slice (some ⟨g, off, none⟩) n1 cC) ∧ w'.cell? ⟨T8, 0, none⟩ = some (.slice oD n2 cD))
          (first | (go_keep; done) | exact X7.out _ (Rt.btr (Ba.bdrew1 w4) b5))
          ((go_at_call 10; refine OF2b.out.mono ?_; rintro r w5 ⟨rfl, b5⟩))
        all_goals
          have B5 := hide (Rt.btr (Rt.btr B4.out (Ba.bdrew1 w4)) b5)
          obtain ⟨q0, q1⟩ := X7.out w5 (Rt.btr (Ba.bdrew1 w4) b5)
          have OF3b := hide (OF3.out w5 B5.out)
          clear b5 OF3
          go_wp2_with fail
          refine OF3b.out.mono ?_
          rintro r w6 ⟨rfl, b6⟩
          have B6 := hide (Rt.btr (Rt.btr B2.out B5.out) b6)
          clear b6
          go_wp2_with fail
          refine (SE.out _).mono ?_
          rintro r w7 ⟨rfl, b7⟩
          have B7 := hide (Rt.btr B6.out b7)
          clear b7
          go_wp2_with fail
          go_ret
          exact ⟨rfl, B7.out⟩
  · clear AA AB hz
    go_wp2_with fail
    refine (SE.out _).mono ?_
    rintro r w1 ⟨rfl, b1⟩
    have B1 := hide b1
    clear b1
    go_wp2_with fail
    go_ret
    exact ⟨rfl, B1.out⟩

/-! ### the row -/
set_option maxRecDepth 100000 in
theorem lifted (os : Os) (started : os.Started) (H : Type) (enc : TypeId × Value → H) :
    ReturnsInHanded {} Try.checked os 6 .any (Rows.retireFewerSpec.pre6 enc Try.prog Try.f6 Rows.retireFewerRow.domain false) (Rows.retireFewerSpec.post enc Try.prog Try.f6 false true false false) := by
  refine returnsInHanded_of_change (C := Try.checked) own started (by kernel_rfl) Try.func6
    (ChangeSpec.witness6 (enc := enc) (C := Try.checked) false ⟨#[], #[.int .i64 0, .slice none 0 0, .slice none 0 0], []⟩ 8 (by kernel_rfl) (by kernel_rfl) (by kernel_rfl) (by kernel_rfl)) ?_
  intro W base args ds gs before hval0 hW hcnd _
  have hval : ∀ (j : Nat) t v, Try.f6.params[j]? = some t → args[j]? = some v → Value.okWide Try.prog W .any base t v := hval0
  have hW' := hW
  obtain ⟨p, q, hA0, hV, rfl, hfz, hnd⟩ := hW
  have hA : DataW.TrodAll enc Try.prog W 0 (fun _ => true) true Try.f6.params.toList args.toList ds p := hA0
  rw [Try.params6] at hA hval
  obtain ⟨v0, vs0, d0, ds0, p0, q0, hargs, rfl, rfl, h0, r0⟩ := trodAll_cons hA
  obtain ⟨v1, vs1, d1, ds1, p1, q1, rfl, rfl, rfl, h1, r1⟩ := trodAll_cons r0
  obtain ⟨v2, vs2, d2, ds2, p2, q2, rfl, rfl, rfl, h2, r2⟩ := trodAll_cons r1
  obtain ⟨rfl, rfl, rfl⟩ := trodAll_nil r2
  obtain rfl : args = #[v0, v1, v2] := by cases args; simp_all
  obtain ⟨rfl, rfl⟩ := trodVars_none hV
  obtain ⟨a0, rfl, rfl, rfl, w0⟩ := open_int Try.underlying3 (hval 0 3 v0 rfl rfl) h0
  obtain ⟨oa1, n1, c1, rfl⟩ := okWide_slice Try.underlying22 (hval 1 22 v1 rfl rfl)
  have k1 := h1
  have lt1 : ∀ x ∈ p1, x.block < W.heap.size := by obtain ⟨m, hm⟩ := k1; exact DataW.trod_lt m _ _ _ hm
  obtain ⟨l1, rfl, A1, C1, M1⟩ := h1.elim fun _ hf => lists_open hf
  obtain ⟨oa2, n2, c2, rfl⟩ := okWide_slice Try.underlying22 (hval 2 22 v2 rfl rfl)
  have k2 := h2
  have lt2 : ∀ x ∈ p2, x.block < W.heap.size := by obtain ⟨m, hm⟩ := k2; exact DataW.trod_lt m _ _ _ hm
  obtain ⟨l2, rfl, A2, C2, M2⟩ := h2.elim fun _ hf => lists_open hf
  clear hA0 hval0
  refine (core (w := W) a0 oa1 l1 c1 A1 (Nat.le_trans C1 M1) oa2 l2 c2 A2 (Nat.le_trans C2 M2)).mono fun e W' ⟨he, bel⟩ => ?_
  subst he
  exact ⟨_, rfl, _, _, _, [], _, [], hW', trodAll_mk1 (shut_bool Try.underlying4 _), (trodAll_cons_mk (shut_int Try.underlying3 w0) (trodAll_cons_mk (Below.trod laidOut (by kernel_rfl) (of_decide_eq_true (by kernel_rfl)) k1 bel lt1) (trodAll_cons_mk (Below.trod laidOut (by kernel_rfl) (of_decide_eq_true (by kernel_rfl)) k2 bel lt2) trodAll_mk0))), rfl, bel.frame _, fun h => by cases h⟩

theorem over : Rows.retireFewerRow.holds Try.pinned (OpenSpec.ofChange Rows.retireFewerSpec) :=
  OpenClaim.holds_of_wide 6 Try.f6 rfl rfl rfl rfl rfl rfl rfl ⟨rfl, rfl, rfl, rfl, rfl⟩ rfl rfl rfl rfl rfl (by kernel_rfl) Try.func6 (by kernel_rfl)
    (of_decide_eq_true (by kernel_rfl)) (by unfold Func.isWrapper; first | (rw [if_pos (by decide +kernel)]; kernel_rfl) | (rw [if_neg (by decide +kernel)]; exact ⟨rfl, rfl⟩))
    (fun os started H enc _ => lifted os started H enc)

/-- the statement -/
theorem proved : Rows.RetireFewerSaid := over
#print axioms proved
end Go.Proofs.Ytbceiakihplbcaa.retireFewer
