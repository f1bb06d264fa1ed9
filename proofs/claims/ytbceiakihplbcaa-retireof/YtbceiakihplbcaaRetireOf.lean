/- Which tids are settled, and with which cuts. -/
import Derived.Test.YtbceiakihplbcaaTa8
import Derived.Deep.Cut
import Derived.ShutString
import Derived.ChangeOld
import Derived.Below
namespace Go.Proofs.Ytbceiakihplbcaa.retireOf
open Go.ChangeShapes Go.WideShapes Go.ChangeAt Go.RowKit
open Go.ChangeMaps (open_string shut_string)
open Rt Ck

theorem own : ownKnob Try.prog.godebug = none := by kernel_rfl
theorem laidOut : laidOutB Try.prog = true := by kernel_rfl

set_option maxRecDepth 100000 in
set_option maxHeartbeats 6400000 in
theorem core {w : World} (tid : Int) (oa : Option Addr) (a : List (List Int)) (c : Nat) (hA : Ba.GAt w oa 1 (LE w) a) (hM : a.length ≤ maxLen) (ob : Option Addr) (b : List (List Int)) (d : Nat) (hB : Ba.GAt w ob 1 (LE w) b) (hM2 : b.length ≤ maxLen) :
    Calls Try.prog 3 #[.int .i64 tid, .slice oa a.length c, .slice ob b.length d] w fun r w' => r = .returned (.bool true) ∧ Below w.heap.size w w' := by
  have LG := hide (large_any oa ob a b a.length b.length c d rfl rfl w hA hB hM hM2)
  have SE := hide settled_any
  have AA := hide (fun u (bu : Below w.heap.size w u) (h : a.length ≤ 60) => all_read u oa a a.length c rfl (by omega) (GAt.keep hA bu))
  have AB := hide (fun u (bu : Below w.heap.size w u) (h : b.length ≤ 60) => all_read u ob b b.length d rfl (by omega) (GAt.keep hB bu))
  clear hA hB
  unfold LgR at LG
  obtain ⟨n, hn⟩ : ∃ n, a.length = n := ⟨_, rfl⟩
  obtain ⟨m, hm⟩ : ∃ m, b.length = m := ⟨_, rfl⟩
  rw [hn] at LG AA ⊢
  rw [hm] at LG AB ⊢
  have zr := zero_ref
  have rs := ra_size nf
  have rsF := fun F => ra_size F
  go_enter Try.func3, Try.ntmps3
  go_wp2_with fail
  refine LG.out.mono ?_
  rintro r w0 ⟨z, rfl, hz, e0⟩
  obtain rfl := e0.symm
  cases z
  · obtain ⟨hn60, hm60⟩ := hz rfl
    have A1 := hide (AA.out w (Below.refl _ _) hn60)
    have A2 := hide (fun u bu => AB.out u bu hm60)
    clear AA AB LG hz
    unfold AlR at A1 A2
    go_wp2_with fail
    refine A1.out.mono ?_
    rintro r w1 ⟨oC, cC, oW, cW, n1, ks, rfl, ka, ra1, hk1, hl1, hn1, b1⟩
    have B1 := hide (Rt.btr b1 (Ba.below_alloc w1 (.cells #[.slice oC n1 cC, .slice oW n1 cW] 28)))
    have KA := hide ka
    have RA1 := hide ra1
    have H7 : Hid ((w1.alloc (.cells #[.slice oC n1 cC, .slice oW n1 cW] 28)).heap[w1.heap.size]? = some (.cells #[.slice oC n1 cC, .slice oW n1 cW] 28 (0, 0))) := heap_new _ _
    have A2b := hide (A2.out _ B1.out)
    clear ka ra1 b1 A1 A2
    go_wp2_with fail
    refine A2b.out.mono ?_
    rintro r w2 ⟨oD, cD, oX, cX, n2, hs, rfl, kb, rb, hk2, hl2, hn2, b2⟩
    have bb := Rt.btr b2 (Ba.below_alloc w2 (.cells #[.slice oD n2 cD, .slice oX n2 cX] 28))
    have B2 := hide (Rt.btr B1.out bb)
    have b12 := Rt.btr (Ba.below_alloc w1 (.cells #[.slice oC n1 cC, .slice oW n1 cW] 28)) bb
    have KA2 := hide (KA.out.below b12)
    have RA2 := hide (RA1.out.below b12)
    have KB2 := hide (kb.below (Ba.below_alloc w2 (.cells #[.slice oD n2 cD, .slice oX n2 cX] 28)))
    have RB2 := hide (rb.below (Ba.below_alloc w2 (.cells #[.slice oD n2 cD, .slice oX n2 cX] 28)))
    have H72 := hide ((bb.block w1.heap.size (Ba.heap_lt H7.out)).trans H7.out)
    have H82 : Hid ((w2.alloc (.cells #[.slice oD n2 cD, .slice oX n2 cX] 28)).heap[w2.heap.size]? = some (.cells #[.slice oD n2 cD, .slice oX n2 cX] 28 (0, 0))) := heap_new _ _
    clear kb rb b2 bb b12 KA RA1 H7 A2b B1
    go_upto_region 5 with fail
    generalize w2.alloc (.cells #[.slice oD n2 cD, .slice oX n2 cX] 28) = w3 at *
    generalize w2.heap.size = T8 at *
    generalize w1.heap.size = T7 at *
    have q0 := cell_of H72.out 0
    have q1 := cell_of H82.out 0
    simp at q0 q1
    have OF1 := hide (Rt.of_any tid oC oD cC cD n1 n2 ks hs hl1 hl2 w3 KA2.out KB2.out (by omega) (by omega))
    rw [hk1, hk2] at OF1
    have OF2 := hide (fun u (bu : Below w3.heap.size w3 u) => rof20_any tid oW oX cW cX n1 n2 ((ks.map Prod.snd).map nth) ((hs.map Prod.snd).map nth) (by simp [hl1]) (by simp [hl2]) u (RA2.out.below bu) (RB2.out.below bu) (by omega) (by omega))
    rw [hk1, hk2, rcut_is tid (lsF a) (lsF b) (fun x hx => by rcases List.mem_append.1 hx with q | q <;> exact lsF_le x q)] at OF2
    unfold ofV at OF1 OF2
    generalize cutOf tid (lsF a) (lsF b) = o at *
    generalize o.getD 0 = ov at *
    generalize o.isSome = os at *
    go_wp2_with fail
    refine OF1.out.mono ?_
    rintro r w4 ⟨rfl, b4⟩
    have B4 := hide b4
    have OF2b := hide (OF2.out w4 b4)
    have p0 := cell_of ((b4.block T7 (Ba.heap_lt H72.out)).trans H72.out) 1
    have p1 := cell_of ((b4.block T8 (Ba.heap_lt H82.out)).trans H82.out) 1
    simp at p0 p1
    clear b4 OF1 OF2 q0 q1
    go_wp2_with fail
    refine OF2b.out.mono ?_
    rintro r w5 ⟨rfl, b5⟩
    have B5 := hide (Rt.btr B4.out b5)
    have p0 := cell_of ((B5.out.block T7 (Ba.heap_lt H72.out)).trans H72.out) 1
    simp at p0
    clear b5 OF2b B4 p1
    go_wp2_with fail
    go_loopw [13, 45] (fun x i wr => ∃ k : Nat, k ≤ n1 ∧ i = .int .i64 (k : Int) ∧ x = .int .i64 (grF tid ((lsF a).take k) 0) ∧ Below w3.heap.size w3 wr) (fun _ i _ => n1 - (intOf i).toNat)
    case atStart => exact ⟨0, Nat.zero_le _, rfl, rfl, B5.out⟩
    case round =>
      clear B5 p0
      obtain ⟨k, hk, rfl, rfl, bl⟩ := hrel
      have BL := hide bl
      clear bl
      by_cases hlt : k < n1
      · have hlt' : (k : Int) < (n1 : Int) := by omega
        obtain ⟨x, hx⟩ : ∃ x, (lsF a)[k]? = some x := ⟨_, List.getElem?_eq_getElem (by rw [← hk1, List.length_map]; omega)⟩
        obtain ⟨g, off, rfl, r1⟩ := (RA2.out.below BL.out) k (nth x) (by rw [List.getElem?_map, hk1, hx]; rfl)
        have EX := hide (grF_take tid (lsF a) k x hx 0)
        have hx256 := lsF_le x (List.mem_of_getElem? hx)
        have lc : (loadCellsFrom ⟨g, off + k * 256, none⟩ 0 256 #[]).run Try.prog wr = .ok (ra (nth x)) wr := ld_ref r1
        obtain ⟨LC, hLC⟩ : ∃ LC : Nat → Sem (Array Value), ∀ n, loadCellsFrom (⟨g, off + k * 256, none⟩ : Addr) 0 n #[] = LC n := ⟨fun n => loadCellsFrom (⟨g, off + k * 256, none⟩ : Addr) 0 n #[], fun _ => rfl⟩
        rw [hLC] at lc
        have s1 := st_ref (nth x) (heap_new wr (.cells (ra nf) 35)) (ra_size nf)
        rw [setRow_new] at s1
        have GT := hide (rget_any wr.heap.size 0 (nth x) tid (wr.alloc (.cells (ra (nth x)) 35)) (RA.of (heap_new _ _)))
        rw [rg_gt hx256] at GT
        have B2' := hide (Rt.btr BL.out (Ba.below_alloc wr (.cells (ra (nth x)) 35)))
        have rF := rsF (nth x)
        clear hx r1 hx256
        generalize gt x tid = y at *
        generalize ra (nth x) = AF at *
        generalize grF tid ((lsF a).take k) 0 = xx at *
        by_cases q2 : xx < y
        · go_wp2_with fail
          refine GT.out.mono ?_
          rintro r w6 ⟨rfl, e6⟩
          obtain rfl := e6.symm
          go_wp2_with fail
          refine GT.out.mono ?_
          rintro r w6 ⟨rfl, e6⟩
          obtain rfl := e6.symm
          go_wp2_with fail
          go_roundw
          case rel => exact ⟨k + 1, by omega, by go_num, by rw [EX.out]; congr 1; omega, B2'.out⟩
          case measure => simp [intOf]; omega
        · go_wp2_with fail
          refine GT.out.mono ?_
          rintro r w6 ⟨rfl, e6⟩
          obtain rfl := e6.symm
          go_wp2_with fail
          go_roundw
          case rel => exact ⟨k + 1, by omega, by go_num, by rw [EX.out]; congr 1; omega, B2'.out⟩
          case measure => simp [intOf]; omega
      · have hlt' : ¬ ((k : Int) < (n1 : Int)) := by omega
        have ET : Hid ((lsF a).take k = lsF a) := by show _ = _; exact List.take_of_length_le (by rw [← hk1, List.length_map]; omega)
        rw [ET.out]
        have GR := hide (greatest_any tid oC cC n1 ks hl1 wr (KA2.out.below BL.out) (by omega))
        rw [hk1] at GR
        generalize grF tid (lsF a) 0 = gg at *
        have p0 := cell_of ((BL.out.block T7 (Ba.heap_lt H72.out)).trans H72.out) 0
        simp at p0
        clear ET
        go_wp2_with fail
        refine GR.out.mono ?_
        rintro r w6 ⟨rfl, e6⟩
        obtain rfl := e6.symm
        go_wp2_with fail
        refine (SE.out _).mono ?_
        rintro r w7 ⟨rfl, b7⟩
        have B7 := hide (Rt.btr (Rt.btr B2.out BL.out) b7)
        clear b7
        go_wp2_with fail
        go_ret
        exact ⟨rfl, B7.out⟩
  · clear AA AB hz
    go_wp2_with fail
    refine (SE.out _).mono ?_
    rintro r w1 ⟨rfl, b1⟩
    have B1 := hide b1
    clear b1
    go_wp2_with fail
    go_ret
    exact ⟨rfl, B1.out⟩

/-! ### the row -/
set_option maxRecDepth 100000 in
theorem lifted (os : Os) (started : os.Started) (H : Type) (enc : TypeId × Value → H) :
    ReturnsInHanded {} Try.checked os 3 .any (Rows.retireOfSpec.pre6 enc Try.prog Try.f3 Rows.retireOfRow.domain false) (Rows.retireOfSpec.post enc Try.prog Try.f3 false true false false) := by
  refine returnsInHanded_of_change (C := Try.checked) own started (by kernel_rfl) Try.func3
    (ChangeSpec.witness6 (enc := enc) (C := Try.checked) false ⟨#[], #[.int .i64 0, .slice none 0 0, .slice none 0 0], []⟩ 8 (by kernel_rfl) (by kernel_rfl) (by kernel_rfl) (by kernel_rfl)) ?_
  intro W base args ds gs before hval0 hW hcnd _
  have hval : ∀ (j : Nat) t v, Try.f3.params[j]? = some t → args[j]? = some v → Value.okWide Try.prog W .any base t v := hval0
  have hW' := hW
  obtain ⟨p, q, hA0, hV, rfl, hfz, hnd⟩ := hW
  have hA : DataW.TrodAll enc Try.prog W 0 (fun _ => true) true Try.f3.params.toList args.toList ds p := hA0
  rw [Try.params3] at hA hval
  obtain ⟨v0, vs0, d0, ds0, p0, q0, hargs, rfl, rfl, h0, r0⟩ := trodAll_cons hA
  obtain ⟨v1, vs1, d1, ds1, p1, q1, rfl, rfl, rfl, h1, r1⟩ := trodAll_cons r0
  obtain ⟨v2, vs2, d2, ds2, p2, q2, rfl, rfl, rfl, h2, r2⟩ := trodAll_cons r1
  obtain ⟨rfl, rfl, rfl⟩ := trodAll_nil r2
  obtain rfl : args = #[v0, v1, v2] := by cases args; simp_all
  obtain ⟨rfl, rfl⟩ := trodVars_none hV
  obtain ⟨a0, rfl, rfl, rfl, w0⟩ := open_int Try.underlying3 (hval 0 3 v0 rfl rfl) h0
  obtain ⟨oa1, n1, c1, rfl⟩ := okWide_slice Try.underlying22 (hval 1 22 v1 rfl rfl)
  have k1 := h1
  have lt1 : ∀ x ∈ p1, x.block < W.heap.size := by obtain ⟨m, hm⟩ := k1; exact DataW.trod_lt m _ _ _ hm
  obtain ⟨l1, rfl, A1, C1, M1⟩ := h1.elim fun _ hf => lists_open hf
  obtain ⟨oa2, n2, c2, rfl⟩ := okWide_slice Try.underlying22 (hval 2 22 v2 rfl rfl)
  have k2 := h2
  have lt2 : ∀ x ∈ p2, x.block < W.heap.size := by obtain ⟨m, hm⟩ := k2; exact DataW.trod_lt m _ _ _ hm
  obtain ⟨l2, rfl, A2, C2, M2⟩ := h2.elim fun _ hf => lists_open hf
  clear hA0 hval0
  refine (core (w := W) a0 oa1 l1 c1 A1 (Nat.le_trans C1 M1) oa2 l2 c2 A2 (Nat.le_trans C2 M2)).mono fun e W' ⟨he, bel⟩ => ?_
  subst he
  exact ⟨_, rfl, _, _, _, [], _, [], hW', trodAll_mk1 (shut_bool Try.underlying4 _), (trodAll_cons_mk (shut_int Try.underlying3 w0) (trodAll_cons_mk (Below.trod laidOut (by kernel_rfl) (of_decide_eq_true (by kernel_rfl)) k1 bel lt1) (trodAll_cons_mk (Below.trod laidOut (by kernel_rfl) (of_decide_eq_true (by kernel_rfl)) k2 bel lt2) trodAll_mk0))), rfl, bel.frame _, fun h => by cases h⟩

theorem over : Rows.retireOfRow.holds Try.pinned (OpenSpec.ofChange Rows.retireOfSpec) :=
  OpenClaim.holds_of_wide 3 Try.f3 rfl rfl rfl rfl rfl rfl rfl ⟨rfl, rfl, rfl, rfl, rfl⟩ rfl rfl rfl rfl rfl (by kernel_rfl) Try.func3 (by kernel_rfl)
    (of_decide_eq_true (by kernel_rfl)) (by unfold Func.isWrapper; first | (rw [if_pos (by decide +kernel)]; kernel_rfl) | (rw [if_neg (by decide +kernel)]; exact ⟨rfl, rfl⟩))
    (fun os started H enc _ => lifted os started H enc)

/-- the statement -/
theorem proved : Rows.RetireOfSaid := over
#print axioms proved
end Go.Proofs.Ytbceiakihplbcaa.retireOf
