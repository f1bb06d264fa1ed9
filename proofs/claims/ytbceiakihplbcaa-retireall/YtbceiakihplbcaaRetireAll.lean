/- Of many tids those that are settled, in their order. -/
import Derived.Test.YtbceiakihplbcaaTb1
import Derived.Deep.Cut
import Derived.Deep.RegionHeld3
import Derived.ShutString
import Derived.ChangeOld
import Derived.Below
namespace Go.Proofs.Ytbceiakihplbcaa.retireAll
open Go.ChangeShapes Go.WideShapes Go.ChangeAt Go.RowKit
open Go.ChangeMaps (open_string shut_string)
open Rt Ck

theorem own : ownKnob Try.prog.godebug = none := by kernel_rfl
theorem laidOut : laidOutB Try.prog = true := by kernel_rfl

set_option maxRecDepth 100000 in
set_option maxHeartbeats 6400000 in
theorem core {w : World} (ot : Option Addr) (ts : List Int) (ct : Nat) (hT : Ba.At w ot ts) (hM0 : ts.length ≤ maxLen) (oa : Option Addr) (a : List (List Int)) (c : Nat) (hA : Ba.GAt w oa 1 (LE w) a) (hM : a.length ≤ maxLen) (ob : Option Addr) (b : List (List Int)) (d : Nat) (hB : Ba.GAt w ob 1 (LE w) b) (hM2 : b.length ≤ maxLen) :
    Calls Try.prog 4 #[.slice ot ts.length ct, .slice oa a.length c, .slice ob b.length d] w fun r w' => r = .returned (.bool true) ∧ Below w.heap.size w w' := by
  have LG := hide (large_any oa ob a b a.length b.length c d rfl rfl w hA hB hM hM2)
  have SE := hide settled_any
  have AA := hide (fun u (bu : Below w.heap.size w u) (h : a.length ≤ 60) => all_read u oa a a.length c rfl (by omega) (GAt.keep hA bu))
  have AB := hide (fun u (bu : Below w.heap.size w u) (h : b.length ≤ 60) => all_read u ob b b.length d rfl (by omega) (GAt.keep hB bu))
  have HT : Hid (Ck.At w ot ts) := hT
  clear hA hB hT
  unfold LgR at LG
  obtain ⟨nt, hnt⟩ : ∃ nt, ts.length = nt := ⟨_, rfl⟩
  rw [hnt] at hM0 ⊢
  have hM0' : nt ≤ 9223372036854775807 := by simp only [maxLen] at hM0; omega
  clear hM0
  obtain ⟨n, hn⟩ : ∃ n, a.length = n := ⟨_, rfl⟩
  obtain ⟨m, hm⟩ : ∃ m, b.length = m := ⟨_, rfl⟩
  rw [hn] at LG AA ⊢
  rw [hm] at LG AB ⊢
  have zr := zero_ref
  have rs := ra_size nf
  have rsF := fun F => ra_size F
  go_enter Try.func4, Try.ntmps4
  go_wp2_with fail
  refine LG.out.mono ?_
  rintro r w0 ⟨z, rfl, hz, e0⟩
  obtain rfl := e0.symm
  cases z
  · obtain ⟨hn60, hm60⟩ := hz rfl
    by_cases h100 : 100 < nt
    · have h100' : (100 : Int) < (nt : Int) := by omega
      clear AA AB LG hz
      go_wp2_with fail
      refine (SE.out _).mono ?_
      rintro r w1 ⟨rfl, b1⟩
      have B1 := hide b1
      clear b1
      go_wp2_with fail
      go_ret
      exact ⟨rfl, B1.out⟩
    have h100' : ¬ ((100 : Int) < (nt : Int)) := by omega
    have A1 := hide (AA.out w (Below.refl _ _) hn60)
    have A2 := hide (fun u bu => AB.out u bu hm60)
    clear AA AB LG hz
    unfold AlR at A1 A2
    go_wp2_with fail
    refine A1.out.mono ?_
    rintro r w1 ⟨oC, cC, oW, cW, n1, ks, rfl, ka, ra1, hk1, hl1, hn1, b1⟩
    have B1 := hide (Rt.btr b1 (Ba.below_alloc w1 (.cells #[.slice oC n1 cC, .slice oW n1 cW] 28)))
    have KA := hide ka
    have RA1 := hide ra1
    have H7 : Hid ((w1.alloc (.cells #[.slice oC n1 cC, .slice oW n1 cW] 28)).heap[w1.heap.size]? = some (.cells #[.slice oC n1 cC, .slice oW n1 cW] 28 (0, 0))) := heap_new _ _
    have A2b := hide (A2.out _ B1.out)
    clear ka ra1 b1 A1 A2
    go_wp2_with fail
    refine A2b.out.mono ?_
    rintro r w2 ⟨oD, cD, oX, cX, n2, hs, rfl, kb, rb, hk2, hl2, hn2, b2⟩
    have bb := Rt.btr b2 (Ba.below_alloc w2 (.cells #[.slice oD n2 cD, .slice oX n2 cX] 28))
    have B2 := hide (Rt.btr B1.out bb)
    have b12 := Rt.btr (Ba.below_alloc w1 (.cells #[.slice oC n1 cC, .slice oW n1 cW] 28)) bb
    have KA2 := hide (KA.out.below b12)
    have RA2 := hide (RA1.out.below b12)
    have KB2 := hide (kb.below (Ba.below_alloc w2 (.cells #[.slice oD n2 cD, .slice oX n2 cX] 28)))
    have RB2 := hide (rb.below (Ba.below_alloc w2 (.cells #[.slice oD n2 cD, .slice oX n2 cX] 28)))
    have H72 := hide ((bb.block w1.heap.size (Ba.heap_lt H7.out)).trans H7.out)
    have H82 : Hid ((w2.alloc (.cells #[.slice oD n2 cD, .slice oX n2 cX] 28)).heap[w2.heap.size]? = some (.cells #[.slice oD n2 cD, .slice oX n2 cX] 28 (0, 0))) := heap_new _ _
    clear kb rb b2 bb b12 KA RA1 H7 A2b B1
    go_upto_region 5 with fail
    generalize w2.alloc (.cells #[.slice oD n2 cD, .slice oX n2 cX] 28) = w3 at *
    generalize w2.heap.size = T8 at *
    generalize w1.heap.size = T7 at *
    have q0 := cell_of H72.out 0
    have q1 := cell_of H82.out 0
    simp at q0 q1
    have OF1 := hide (all20_any ot ct ts nt hnt oC oD cC cD n1 n2 ks hs hl1 hl2 w3 (HT.out.below B2.out) KA2.out KB2.out (by omega) (by omega) (by omega))
    rw [hk1, hk2] at OF1
    have OF2 := hide (fun u (bu : Below w3.heap.size w3 u) t => rof20_any t oW oX cW cX n1 n2 ((ks.map Prod.snd).map nth) ((hs.map Prod.snd).map nth) (by simp [hl1]) (by simp [hl2]) u (RA2.out.below bu) (RB2.out.below bu) (by omega) (by omega))
    have ER : Hid (∀ t, rcut t ((ks.map Prod.snd).map nth) ((hs.map Prod.snd).map nth) = cutOf t (lsF a) (lsF b)) := by
      intro t
      rw [hk1, hk2]
      exact rcut_is t (lsF a) (lsF b) (fun x hx => by rcases List.mem_append.1 hx with q | q <;> exact lsF_le x q)
    simp only [ER.out] at OF2
    unfold ofV at OF2
    clear ER
    generalize lsF a = Ls at *
    generalize lsF b = Hs at *
    go_wp2_with fail
    refine OF1.out.mono ?_
    rintro r w4 ⟨v, rfl, o4, b4⟩
    obtain ⟨oV, nV, cV, rfl⟩ := own_sl3 o4
    have hnV : nV = (csF Ls Hs ts).length := by
      rcases o4.2 with ⟨e, q⟩ | ⟨g, cap, cr, e, -⟩
      · cases e; exact q.symm
      · cases e; rfl
    have hVl := csF_len Ls Hs ts
    have OW := hide o4
    have B4 := hide b4
    clear b4 OF1 o4 q0 q1
    go_wp2_with fail
    go_loopw [10, 36] (fun x i wr => ∃ k : Nat, k ≤ nt ∧ i = .int .i64 (k : Int) ∧ x = .int .i64 ((csF Ls Hs (ts.take k)).length : Int) ∧ Below w4.heap.size w4 wr) (fun _ i _ => nt - (intOf i).toNat)
    case atStart => exact ⟨0, Nat.zero_le _, rfl, rfl, Below.refl _ _⟩
    case round =>
      obtain ⟨k, hk, rfl, rfl, bl⟩ := hrel
      have BL := hide bl
      clear bl
      by_cases hlt : k < nt
      · have hlt' : (k : Int) < (nt : Int) := by omega
        obtain ⟨g, off, rfl, c0⟩ := HT.out k (by rw [hnt]; exact hlt)
        have c1 := Rt.cellB c0 (Rt.btr (Rt.btr B2.out B4.out) BL.out)
        have OK := hide (OF2.out wr (Rt.btr B4.out BL.out) (nth ts k))
        have p0 := cell_of (((Rt.btr B4.out BL.out).block T7 (Ba.heap_lt H72.out)).trans H72.out) 1
        have p1 := cell_of (((Rt.btr B4.out BL.out).block T8 (Ba.heap_lt H82.out)).trans H82.out) 1
        simp at p0 p1
        have HE := hide (csF_take Ls Hs (ts := ts) (k := k) (by rw [hnt]; exact hlt))
        obtain ⟨o, ho⟩ : ∃ o, cutOf (nth ts k) Ls Hs = o := ⟨_, rfl⟩
        rw [ho] at OK HE
        clear c0
        cases o with
        | none =>
          simp only [Option.getD_none, Option.isSome_none] at OK
          clear ho
          generalize nth ts k = t at *
          go_wp2_with fail
          refine OK.out.mono ?_
          rintro r w5 ⟨rfl, b5⟩
          have B5 := hide (Rt.btr BL.out b5)
          clear b5
          go_wp2_with fail
          go_roundw
          case rel => exact ⟨k + 1, by omega, by go_num, by rw [HE.out]; simp, B5.out⟩
          case measure => simp [intOf]; omega
        | some cut =>
          simp only [Option.getD_some, Option.isSome_some] at OK
          have NX := csF_next Ls Hs (ts := ts) (k := k) (by rw [hnt]; exact hlt) ho
          have hat : (csF Ls Hs (ts.take k)).length < (csF Ls Hs ts).length := (List.getElem?_eq_some_iff.1 NX).1
          have OWr := own_sm OW.out (w' := wr) (fun g e => BL.out.block g (OW.out.lt g e).2)
          obtain ⟨gv, hgv, d0, d1⟩ : ∃ gv, oV = some ⟨gv, 0, none⟩ ∧ wr.cell? ⟨gv, (csF Ls Hs (ts.take k)).length * 2, none⟩ = some (.int .i64 (nth ts k)) ∧ wr.cell? ⟨gv, (csF Ls Hs (ts.take k)).length * 2 + 1, none⟩ = some (.int .i64 cut) := by
            rcases OWr.2 with ⟨e, q⟩ | ⟨gv, cap, cr, e, -⟩
            · cases e; omega
            · cases e
              obtain ⟨z1, z2⟩ := cuC_at _ _ _ NX
              refine ⟨gv, rfl, ?_, ?_⟩
              · rw [OWr.cellAt _ (by omega)]; exact z1
              · rw [OWr.cellAt _ (by omega)]; exact z2
          subst hgv
          have hat' : ((csF Ls Hs (ts.take k)).length : Int) < (nV : Int) := by omega
          have D0 := hide (fun u (bu : Below wr.heap.size wr u) => And.intro (Rt.cellB d0 bu) (Rt.cellB d1 bu))
          have HE2 : Hid ((csF Ls Hs (ts.take (k + 1))).length = (csF Ls Hs (ts.take k)).length + 1) := by show _ = _; rw [HE.out]; simp
          clear ho NX OWr d0 d1 HE
          generalize nth ts k = t at *
          generalize (csF Ls Hs (ts.take k)).length = at_ at *
          go_wp2_with fail
          refine OK.out.mono ?_
          rintro r w5 ⟨rfl, b5⟩
          obtain ⟨d0, d1⟩ := D0.out w5 b5
          have B5 := hide (Rt.btr BL.out b5)
          clear b5
          go_wp2_with fail
          go_roundw
          case rel => exact ⟨k + 1, by omega, by go_num, by rw [HE2.out]; go_num, B5.out⟩
          case measure => simp [intOf]; omega
      · have hlt' : ¬ ((k : Int) < (nt : Int)) := by omega
        have ET : Hid (ts.take k = ts) := by show _ = _; exact List.take_of_length_le (by rw [hnt]; omega)
        rw [ET.out, ← hnV]
        clear ET
        go_wp2_with fail
        refine (SE.out _).mono ?_
        rintro r w7 ⟨rfl, b7⟩
        have B7 := hide (Rt.btr (Rt.btr (Rt.btr B2.out B4.out) BL.out) b7)
        clear b7
        go_wp2_with fail
        go_ret
        exact ⟨rfl, B7.out⟩
  · clear AA AB hz
    go_wp2_with fail
    refine (SE.out _).mono ?_
    rintro r w1 ⟨rfl, b1⟩
    have B1 := hide b1
    clear b1
    go_wp2_with fail
    go_ret
    exact ⟨rfl, B1.out⟩

/-! ### the row -/
set_option maxRecDepth 100000 in
theorem lifted (os : Os) (started : os.Started) (H : Type) (enc : TypeId × Value → H) :
    ReturnsInHanded {} Try.checked os 4 .any (Rows.retireAllSpec.pre6 enc Try.prog Try.f4 Rows.retireAllRow.domain false) (Rows.retireAllSpec.post enc Try.prog Try.f4 false true false false) := by
  refine returnsInHanded_of_change (C := Try.checked) own started (by kernel_rfl) Try.func4
    (ChangeSpec.witness6 (enc := enc) (C := Try.checked) false ⟨#[], #[.slice none 0 0, .slice none 0 0, .slice none 0 0], []⟩ 8 (by kernel_rfl) (by kernel_rfl) (by kernel_rfl) (by kernel_rfl)) ?_
  intro W base args ds gs before hval0 hW hcnd _
  have hval : ∀ (j : Nat) t v, Try.f4.params[j]? = some t → args[j]? = some v → Value.okWide Try.prog W .any base t v := hval0
  have hW' := hW
  obtain ⟨p, q, hA0, hV, rfl, hfz, hnd⟩ := hW
  have hA : DataW.TrodAll enc Try.prog W 0 (fun _ => true) true Try.f4.params.toList args.toList ds p := hA0
  rw [Try.params4] at hA hval
  obtain ⟨v0, vs0, d0, ds0, p0, q0, hargs, rfl, rfl, h0, r0⟩ := trodAll_cons hA
  obtain ⟨v1, vs1, d1, ds1, p1, q1, rfl, rfl, rfl, h1, r1⟩ := trodAll_cons r0
  obtain ⟨v2, vs2, d2, ds2, p2, q2, rfl, rfl, rfl, h2, r2⟩ := trodAll_cons r1
  obtain ⟨rfl, rfl, rfl⟩ := trodAll_nil r2
  obtain rfl : args = #[v0, v1, v2] := by cases args; simp_all
  obtain ⟨rfl, rfl⟩ := trodVars_none hV
  obtain ⟨oa0, n0, c0, rfl⟩ := okWide_slice Try.underlying39 (hval 0 39 v0 rfl rfl)
  have k0 := h0
  have lt0 : ∀ x ∈ p0, x.block < W.heap.size := by obtain ⟨m, hm⟩ := k0; exact DataW.trod_lt m _ _ _ hm
  obtain ⟨l0, rfl, A0, C0, M0⟩ := h0.elim fun _ hf => Ba.ints_open hf
  obtain ⟨oa1, n1, c1, rfl⟩ := okWide_slice Try.underlying22 (hval 1 22 v1 rfl rfl)
  have k1 := h1
  have lt1 : ∀ x ∈ p1, x.block < W.heap.size := by obtain ⟨m, hm⟩ := k1; exact DataW.trod_lt m _ _ _ hm
  obtain ⟨l1, rfl, A1, C1, M1⟩ := h1.elim fun _ hf => lists_open hf
  obtain ⟨oa2, n2, c2, rfl⟩ := okWide_slice Try.underlying22 (hval 2 22 v2 rfl rfl)
  have k2 := h2
  have lt2 : ∀ x ∈ p2, x.block < W.heap.size := by obtain ⟨m, hm⟩ := k2; exact DataW.trod_lt m _ _ _ hm
  obtain ⟨l2, rfl, A2, C2, M2⟩ := h2.elim fun _ hf => lists_open hf
  clear hA0 hval0
  refine (core (w := W) oa0 l0 c0 A0 (Nat.le_trans C0 M0) oa1 l1 c1 A1 (Nat.le_trans C1 M1) oa2 l2 c2 A2 (Nat.le_trans C2 M2)).mono fun e W' ⟨he, bel⟩ => ?_
  subst he
  exact ⟨_, rfl, _, _, _, [], _, [], hW', trodAll_mk1 (shut_bool Try.underlying4 _), (trodAll_cons_mk (Below.trod laidOut (by kernel_rfl) (of_decide_eq_true (by kernel_rfl)) k0 bel lt0) (trodAll_cons_mk (Below.trod laidOut (by kernel_rfl) (of_decide_eq_true (by kernel_rfl)) k1 bel lt1) (trodAll_cons_mk (Below.trod laidOut (by kernel_rfl) (of_decide_eq_true (by kernel_rfl)) k2 bel lt2) trodAll_mk0))), rfl, bel.frame _, fun h => by cases h⟩

theorem over : Rows.retireAllRow.holds Try.pinned (OpenSpec.ofChange Rows.retireAllSpec) :=
  OpenClaim.holds_of_wide 4 Try.f4 rfl rfl rfl rfl rfl rfl rfl ⟨rfl, rfl, rfl, rfl, rfl⟩ rfl rfl rfl rfl rfl (by kernel_rfl) Try.func4 (by kernel_rfl)
    (of_decide_eq_true (by kernel_rfl)) (by unfold Func.isWrapper; first | (rw [if_pos (by decide +kernel)]; kernel_rfl) | (rw [if_neg (by decide +kernel)]; exact ⟨rfl, rfl⟩))
    (fun os started H enc _ => lifted os started H enc)

/-- the statement -/
theorem proved : Rows.RetireAllSaid := over
#print axioms proved
end Go.Proofs.Ytbceiakihplbcaa.retireAll
