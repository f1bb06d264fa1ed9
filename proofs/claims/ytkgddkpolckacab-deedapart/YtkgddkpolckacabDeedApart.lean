/- For every two operations and every number of programs, the law DeedApart returns true, so unlike operations have unlike bytes, and no one's are the beginning of another one's: under no condition. -/
import Derived.Test.YtkgddkpolckacabDl
import Derived.ShutString
import Derived.ChangeOld
import Derived.Below
namespace Go.Proofs.Ytkgddkpolckacab.deedApart
open Go.ChangeShapes Go.WideShapes Go.ChangeAt Go.RowKit
open Go.ChangeMaps (open_string shut_string)
open De Ba Re

theorem own : ownKnob Try.prog.godebug = none := by kernel_rfl
theorem laidOut : laidOutB Try.prog = true := by kernel_rfl

set_option maxHeartbeats 3200000
theorem tol (L : List Nat) (t : ByteArray) (x : Bool) (hL : ∀ b ∈ L, b < 256) (h : decide (nbs t = L) = x) : (t.toList == (bs L).toList) = x := by
  rw [BEq.comm]
  exact eq_str L t x hL (by rw [← h]; congr 1; exact propext eq_comm)
theorem pls_lt (l : List Int) : ∀ b ∈ pls l, b < 256 := by
  intro b hb
  simp only [pls, List.mem_flatMap] at hb
  obtain ⟨n, _, hb⟩ := hb
  exact spl_lt _ b hb
/-- one's bytes are the beginning of another one's only if both are the same -/
theorem apart {a b : OpD} {p : Int} (ha : chk a p = 0) (hb : chk b p = 0) (R : List Nat) (h : pls (nums b) = pls (nums a) ++ R) : a = b := by
  have e : nbs (bs (pls (nums b))) = pls (nums b) := nbs_bs _ (pls_lt _)
  obtain ⟨r1, q1, _⟩ := rop_enc hb (bs (pls (nums b))) [] (by rw [e, List.append_nil])
  obtain ⟨r2, q2, _⟩ := rop_enc ha (bs (pls (nums b))) R (by rw [e, h])
  rw [q1] at q2
  simp at q2
  exact q2.1.symm

theorem op_cells {w : World} {b : Nat} {x0 x1 x2 x3 x4 : Value} {t : TypeId} {fr : Nat × Nat} (h : w.heap[b]? = some (.cells #[x0, x1, x2, x3, x4] t fr)) : w.cell? ⟨b, 0, none⟩ = some x0 ∧ w.cell? ⟨b, 1, none⟩ = some x1 ∧ w.cell? ⟨b, 2, none⟩ = some x2 ∧ w.cell? ⟨b, 3, none⟩ = some x3 ∧ w.cell? ⟨b, 4, none⟩ = some x4 := ⟨cell_of h 0, cell_of h 1, cell_of h 2, cell_of h 3, cell_of h 4⟩

set_option maxRecDepth 100000 in
theorem core {w : World} (o1 : OpD) (oa : Option Addr) (c1 : Nat) (hA : CAt w oa o1.cases) (hM : o1.cases.length ≤ maxLen) (o2 : OpD) (ob : Option Addr) (c2 : Nat) (hB : CAt w ob o2.cases) (hN : o2.cases.length ≤ maxLen) (p : Int) :
    Calls Try.prog 8 #[.agg #[.int .i64 o1.kind, .int .i64 o1.a, .int .i64 o1.b, .slice oa o1.cases.length c1, .bool o1.def_], .agg #[.int .i64 o2.kind, .int .i64 o2.a, .int .i64 o2.b, .slice ob o2.cases.length c2, .bool o2.def_], .int .i64 p] w fun r w' => r = .returned (.bool true) ∧ Below w.heap.size w w' := by
  have EQ := hide (Classical.em (o1 = o2))
  have AP := fun h1 h2 R h => apart (a := o1) (b := o2) (p := p) h1 h2 R h
  have HAP := hide AP
  clear AP
  obtain ⟨k1, a1, b1, cs1, d1⟩ := o1
  obtain ⟨k2, a2, b2, cs2, d2⟩ := o2
  unfold maxLen at hM hN
  simp only at hA hM hB hN ⊢
  have HA := hide (hA.below (btr (below_alloc w (.cells #[.int .i64 k1, .int .i64 a1, .int .i64 b1, .slice oa cs1.length c1, .bool d1] 27)) (below_alloc (w.alloc (.cells #[.int .i64 k1, .int .i64 a1, .int .i64 b1, .slice oa cs1.length c1, .bool d1] 27)) (.cells #[.int .i64 k2, .int .i64 a2, .int .i64 b2, .slice ob cs2.length c2, .bool d2] 27))))
  have HB := hide (hB.below (btr (below_alloc w (.cells #[.int .i64 k1, .int .i64 a1, .int .i64 b1, .slice oa cs1.length c1, .bool d1] 27)) (below_alloc (w.alloc (.cells #[.int .i64 k1, .int .i64 a1, .int .i64 b1, .slice oa cs1.length c1, .bool d1] 27)) (.cells #[.int .i64 k2, .int .i64 a2, .int .i64 b2, .slice ob cs2.length c2, .bool d2] 27))))
  have HPA := hide (heap_below (heap_new w (.cells #[.int .i64 k1, .int .i64 a1, .int .i64 b1, .slice oa cs1.length c1, .bool d1] 27)) (below_alloc (w.alloc (.cells #[.int .i64 k1, .int .i64 a1, .int .i64 b1, .slice oa cs1.length c1, .bool d1] 27)) (.cells #[.int .i64 k2, .int .i64 a2, .int .i64 b2, .slice ob cs2.length c2, .bool d2] 27)))
  have HPB := hide (heap_new (w.alloc (.cells #[.int .i64 k1, .int .i64 a1, .int .i64 b1, .slice oa cs1.length c1, .bool d1] 27)) (.cells #[.int .i64 k2, .int .i64 a2, .int .i64 b2, .slice ob cs2.length c2, .bool d2] 27))
  rw [World.size_alloc] at HPB
  have B0 := hide (btr (below_alloc w (.cells #[.int .i64 k1, .int .i64 a1, .int .i64 b1, .slice oa cs1.length c1, .bool d1] 27)) (below_alloc (w.alloc (.cells #[.int .i64 k1, .int .i64 a1, .int .i64 b1, .slice oa cs1.length c1, .bool d1] 27)) (.cells #[.int .i64 k2, .int .i64 a2, .int .i64 b2, .slice ob cs2.length c2, .bool d2] 27)))
  clear hA hB
  by_cases l1 : cs1.length ≤ 100
  · have l1' : decide ((100 : Int) < (cs1.length : Int)) = false := by simp; omega
    by_cases l2 : cs2.length ≤ 100
    · have l2' : decide ((100 : Int) < (cs2.length : Int)) = false := by simp; omega
      have ML1 : Hid (cs1.length ≤ maxLen) := by show _ ≤ _; unfold maxLen; omega
      have ML2 : Hid (cs2.length ≤ maxLen) := by show _ ≤ _; unfold maxLen; omega
      cases z1 : chk ⟨k1, a1, b1, cs1, d1⟩ p == 0
      · have Z1 := hide z1
        have z1' : (chk ⟨k1, a1, b1, cs1, d1⟩ p != 0) = true := by simp [bne, z1]
        cases z2 : chk ⟨k2, a2, b2, cs2, d2⟩ p == 0
        · have Z2 := hide z2
          clear z1 z2
          go_enter Try.func8, Try.ntmps8
          go_wp2_with fail
          refine (encode_no ⟨k1, a1, b1, cs1, d1⟩ _ _ p _ HA.out ML1.out Z1.out).mono ?_
          rintro r w1 ⟨rfl, e1⟩
          have PA1 := hide (heap_below HPA.out e1)
          have PB1 := hide (heap_below HPB.out e1)
          have CB1 := hide (HB.out.below e1)
          have CA1 := hide (HA.out.below e1)
          have B1 := hide (btr B0.out e1)
          obtain ⟨y0, y1, y2, y3, y4⟩ := op_cells PB1.out
          clear e1
          go_wp2_with fail
          refine (encode_no ⟨k2, a2, b2, cs2, d2⟩ _ _ p _ CB1.out ML2.out Z2.out).mono ?_
          rintro r w2 ⟨rfl, e2⟩
          have B2 := hide (btr B1.out e2)
          clear e2
          go_wp2_with fail
          refine (send_any _).mono ?_
          rintro r w9 ⟨rfl, b9⟩
          have B9 := hide (btr B2.out b9)
          clear b9
          go_wp2_with fail
          go_ret
          exact ⟨rfl, B9.out⟩
        · have Z2 : Hid (chk ⟨k2, a2, b2, cs2, d2⟩ p = 0) := by show _ = _; simpa using z2
          clear z1 z2
          go_enter Try.func8, Try.ntmps8
          go_wp2_with fail
          refine (encode_no ⟨k1, a1, b1, cs1, d1⟩ _ _ p _ HA.out ML1.out Z1.out).mono ?_
          rintro r w1 ⟨rfl, e1⟩
          have PA1 := hide (heap_below HPA.out e1)
          have PB1 := hide (heap_below HPB.out e1)
          have CB1 := hide (HB.out.below e1)
          have CA1 := hide (HA.out.below e1)
          have B1 := hide (btr B0.out e1)
          obtain ⟨y0, y1, y2, y3, y4⟩ := op_cells PB1.out
          clear e1
          go_wp2_with fail
          refine (encode_ok ⟨k2, a2, b2, cs2, d2⟩ _ _ p _ CB1.out (chk_zero Z2.out).2.2.1 Z2.out (nums_ok Z2.out)).mono ?_
          rintro r w2 ⟨rfl, e2⟩
          have B2 := hide (btr B1.out e2)
          clear e2
          go_wp2_with fail
          refine (send_any _).mono ?_
          rintro r w9 ⟨rfl, b9⟩
          have B9 := hide (btr B2.out b9)
          clear b9
          go_wp2_with fail
          go_ret
          exact ⟨rfl, B9.out⟩
      · have Z1 : Hid (chk ⟨k1, a1, b1, cs1, d1⟩ p = 0) := by show _ = _; simpa using z1
        cases z2 : chk ⟨k2, a2, b2, cs2, d2⟩ p == 0
        · have Z2 := hide z2
          have z2' : (chk ⟨k2, a2, b2, cs2, d2⟩ p != 0) = true := by simp [bne, z2]
          clear z1 z2
          go_enter Try.func8, Try.ntmps8
          go_wp2_with fail
          refine (encode_ok ⟨k1, a1, b1, cs1, d1⟩ _ _ p _ HA.out (chk_zero Z1.out).2.2.1 Z1.out (nums_ok Z1.out)).mono ?_
          rintro r w1 ⟨rfl, e1⟩
          have PA1 := hide (heap_below HPA.out e1)
          have PB1 := hide (heap_below HPB.out e1)
          have CB1 := hide (HB.out.below e1)
          have CA1 := hide (HA.out.below e1)
          have B1 := hide (btr B0.out e1)
          obtain ⟨y0, y1, y2, y3, y4⟩ := op_cells PB1.out
          clear e1
          go_wp2_with fail
          refine (encode_no ⟨k2, a2, b2, cs2, d2⟩ _ _ p _ CB1.out ML2.out Z2.out).mono ?_
          rintro r w2 ⟨rfl, e2⟩
          have B2 := hide (btr B1.out e2)
          clear e2
          go_wp2_with fail
          refine (send_any _).mono ?_
          rintro r w9 ⟨rfl, b9⟩
          have B9 := hide (btr B2.out b9)
          clear b9
          go_wp2_with fail
          go_ret
          exact ⟨rfl, B9.out⟩
        · have Z2 : Hid (chk ⟨k2, a2, b2, cs2, d2⟩ p = 0) := by show _ = _; simpa using z2
          clear z1 z2
          have NA : Hid (nums ⟨k1, a1, b1, cs1, d1⟩ = nums ⟨k1, a1, b1, cs1, d1⟩) := rfl
          have LA := pls_lt (nums ⟨k1, a1, b1, cs1, d1⟩)
          have LB := pls_lt (nums ⟨k2, a2, b2, cs2, d2⟩)
          have HLA := hide LA
          have HLB := hide LB
          clear LA LB NA
          go_enter Try.func8, Try.ntmps8
          go_wp2_with fail
          refine (encode_ok ⟨k1, a1, b1, cs1, d1⟩ _ _ p _ HA.out (chk_zero Z1.out).2.2.1 Z1.out (nums_ok Z1.out)).mono ?_
          rintro r w1 ⟨rfl, e1⟩
          have PA1 := hide (heap_below HPA.out e1)
          have PB1 := hide (heap_below HPB.out e1)
          have CB1 := hide (HB.out.below e1)
          have CA1 := hide (HA.out.below e1)
          have B1 := hide (btr B0.out e1)
          obtain ⟨y0, y1, y2, y3, y4⟩ := op_cells PB1.out
          clear e1
          go_wp2_with fail
          refine (encode_ok ⟨k2, a2, b2, cs2, d2⟩ _ _ p _ CB1.out (chk_zero Z2.out).2.2.1 Z2.out (nums_ok Z2.out)).mono ?_
          rintro r w2 ⟨rfl, e2⟩
          have B2 := hide (btr B1.out e2)
          have CA2 := hide (CA1.out.below e2)
          have CB2 := hide (CB1.out.below e2)
          obtain ⟨x0, x1, x2, x3, x4⟩ := op_cells (heap_below PA1.out e2)
          obtain ⟨y0, y1, y2, y3, y4⟩ := op_cells (heap_below PB1.out e2)
          clear e2
          have AQ : Hid (∀ R, pls (nums ⟨k2, a2, b2, cs2, d2⟩) = pls (nums ⟨k1, a1, b1, cs1, d1⟩) ++ R → (⟨k1, a1, b1, cs1, d1⟩ : OpD) = ⟨k2, a2, b2, cs2, d2⟩) := fun R h => HAP.out Z1.out Z2.out R h
          have QA : Hid ((⟨k1, a1, b1, cs1, d1⟩ : OpD) = ⟨k2, a2, b2, cs2, d2⟩ → pls (nums ⟨k1, a1, b1, cs1, d1⟩) = pls (nums ⟨k2, a2, b2, cs2, d2⟩)) := fun h => by rw [h]
          generalize pls (nums ⟨k1, a1, b1, cs1, d1⟩) = LA at HLA AQ QA ⊢
          generalize pls (nums ⟨k2, a2, b2, cs2, d2⟩) = LB at HLB AQ QA ⊢
          have sA := bs_size LA
          have sB := bs_size LB
          rcases EQ.out with eq | eq
          · have QE := QA.out eq
            subst QE
            have t1 : ((bs LA).extract 0 LA.length).toList = (bs LA).toList := by
              have e : (bs LA).extract 0 LA.length = bs LA := nbs_inj (by rw [nbs_extract, nbs_bs _ HLA.out, List.take_length]; rfl)
              rw [e]
            have HE := hide eq
            clear eq
            go_wp2_with fail
            refine (plain_any ⟨k1, a1, b1, cs1, d1⟩ ⟨k2, a2, b2, cs2, d2⟩ _ _ _ _ _ CA2.out CB2.out (by show cs1.length ≤ 1000; omega) (by show cs2.length ≤ 1000; omega)).mono ?_
            rintro r w3 ⟨⟨x, rfl, hx⟩, b3⟩
            obtain rfl : x = true := hx.2 HE.out
            have B3 := hide (btr B2.out b3)
            clear b3 hx
            go_wp2_with fail
            refine (send_any _).mono ?_
            rintro r w9 ⟨rfl, b9⟩
            have B9 := hide (btr B3.out b9)
            clear b9
            go_wp2_with fail
            go_ret
            exact ⟨rfl, B9.out⟩
          · have HE := hide eq
            clear eq
            have ns : ((bs LA).toList == (bs LB).toList) = false := by
              refine eq_str LA (bs LB) false HLA.out ?_
              rw [nbs_bs _ HLB.out]
              simp
              intro e
              exact HE.out (AQ.out [] (by rw [e, List.append_nil]))
            by_cases hle : LA.length ≤ LB.length
            · have hle' : decide ((LA.length : Int) ≤ (LB.length : Int)) = true := by simp; omega
              have es : (((bs LB).extract 0 LA.length).toList == (bs LA).toList) = false := by
                refine tol LA _ false HLA.out ?_
                rw [nbs_extract, nbs_bs _ HLB.out]
                simp
                intro e
                exact HE.out (AQ.out (LB.drop LA.length) (by
                  have := List.take_append_drop LA.length LB
                  rw [e] at this
                  exact this.symm))
              go_wp2_with fail
              refine (plain_any ⟨k1, a1, b1, cs1, d1⟩ ⟨k2, a2, b2, cs2, d2⟩ _ _ _ _ _ CA2.out CB2.out (by show cs1.length ≤ 1000; omega) (by show cs2.length ≤ 1000; omega)).mono ?_
              rintro r w3 ⟨⟨x, rfl, hx⟩, b3⟩
              obtain rfl : x = false := by
                cases x
                · rfl
                · exact absurd (hx.1 rfl) HE.out
              have B3 := hide (btr B2.out b3)
              clear b3 hx
              go_wp2_with fail
              refine (send_any _).mono ?_
              rintro r w9 ⟨rfl, b9⟩
              have B9 := hide (btr B3.out b9)
              clear b9
              go_wp2_with fail
              go_ret
              exact ⟨rfl, B9.out⟩
            · have hle' : decide ((LA.length : Int) ≤ (LB.length : Int)) = false := by simp; omega
              go_wp2_with fail
              refine (plain_any ⟨k1, a1, b1, cs1, d1⟩ ⟨k2, a2, b2, cs2, d2⟩ _ _ _ _ _ CA2.out CB2.out (by show cs1.length ≤ 1000; omega) (by show cs2.length ≤ 1000; omega)).mono ?_
              rintro r w3 ⟨⟨x, rfl, hx⟩, b3⟩
              obtain rfl : x = false := by
                cases x
                · rfl
                · exact absurd (hx.1 rfl) HE.out
              have B3 := hide (btr B2.out b3)
              clear b3 hx
              go_wp2_with fail
              refine (send_any _).mono ?_
              rintro r w9 ⟨rfl, b9⟩
              have B9 := hide (btr B3.out b9)
              clear b9
              go_wp2_with fail
              go_ret
              exact ⟨rfl, B9.out⟩
    · have l2' : decide ((100 : Int) < (cs2.length : Int)) = true := by simp; omega
      go_enter Try.func8, Try.ntmps8
      go_wp2_with fail
      refine (send_any _).mono ?_
      rintro r w9 ⟨rfl, b9⟩
      have B9 := hide (btr B0.out b9)
      clear b9
      go_wp2_with fail
      go_ret
      exact ⟨rfl, B9.out⟩
  · have l1' : decide ((100 : Int) < (cs1.length : Int)) = true := by simp; omega
    go_enter Try.func8, Try.ntmps8
    go_wp2_with fail
    refine (send_any _).mono ?_
    rintro r w9 ⟨rfl, b9⟩
    have B9 := hide (btr B0.out b9)
    clear b9
    go_wp2_with fail
    go_ret
    exact ⟨rfl, B9.out⟩

/-! ### the row -/
set_option maxRecDepth 100000 in
theorem lifted (os : Os) (started : os.Started) (H : Type) (enc : TypeId × Value → H) :
    ReturnsInHanded {} Try.checked os 8 .any (Rows.deedApartSpec.pre6 enc Try.prog Try.f8 Rows.deedApartRow.domain false) (Rows.deedApartSpec.post enc Try.prog Try.f8 false true false false) := by
  refine returnsInHanded_of_change (C := Try.checked) own started (by kernel_rfl) Try.func8
    (ChangeSpec.witness6 (enc := enc) (C := Try.checked) false ⟨#[], #[.agg #[.int .i64 0, .int .i64 0, .int .i64 0, .slice none 0 0, .bool false], .agg #[.int .i64 0, .int .i64 0, .int .i64 0, .slice none 0 0, .bool false], .int .i64 0], []⟩ 8 (by kernel_rfl) (by kernel_rfl) (by kernel_rfl) (by kernel_rfl)) ?_
  intro W base args ds gs before hval0 hW hcnd _
  have hval : ∀ (j : Nat) t v, Try.f8.params[j]? = some t → args[j]? = some v → Value.okWide Try.prog W .any base t v := hval0
  have hW' := hW
  obtain ⟨p, q, hA0, hV, rfl, hfz, hnd⟩ := hW
  have hA : DataW.TrodAll enc Try.prog W 0 (fun _ => true) true Try.f8.params.toList args.toList ds p := hA0
  rw [Try.params8] at hA hval
  obtain ⟨v0, vs0, d0, ds0, p0, q0, hargs, rfl, rfl, h0, r0⟩ := trodAll_cons hA
  obtain ⟨v1, vs1, d1, ds1, p1, q1, rfl, rfl, rfl, h1, r1⟩ := trodAll_cons r0
  obtain ⟨v2, vs2, d2, ds2, p2, q2, rfl, rfl, rfl, h2, r2⟩ := trodAll_cons r1
  obtain ⟨rfl, rfl, rfl⟩ := trodAll_nil r2
  obtain rfl : args = #[v0, v1, v2] := by cases args; simp_all
  obtain ⟨rfl, rfl⟩ := trodVars_none hV
  have k0 := h0
  have lt0 : ∀ x ∈ p0, x.block < W.heap.size := by obtain ⟨m, hm⟩ := k0; exact DataW.trod_lt m _ _ _ hm
  obtain ⟨o0, oa0, c0, rfl, C0, M0⟩ : ∃ (o : OpD) (oa : Option Addr) (c : Nat), v0 = .agg #[.int .i64 o.kind, .int .i64 o.a, .int .i64 o.b, .slice oa o.cases.length c, .bool o.def_] ∧ CAt W oa o.cases ∧ o.cases.length ≤ maxLen := by
    obtain ⟨fuel, hf⟩ := h0
    exact op_open hf
  have k1 := h1
  have lt1 : ∀ x ∈ p1, x.block < W.heap.size := by obtain ⟨m, hm⟩ := k1; exact DataW.trod_lt m _ _ _ hm
  obtain ⟨o1, oa1, c1, rfl, C1, M1⟩ : ∃ (o : OpD) (oa : Option Addr) (c : Nat), v1 = .agg #[.int .i64 o.kind, .int .i64 o.a, .int .i64 o.b, .slice oa o.cases.length c, .bool o.def_] ∧ CAt W oa o.cases ∧ o.cases.length ≤ maxLen := by
    obtain ⟨fuel, hf⟩ := h1
    exact op_open hf
  obtain ⟨a2, rfl, rfl, rfl, w2⟩ := open_int Try.underlying3 (hval 2 3 v2 rfl rfl) h2
  clear hA0 hval0
  refine (core (w := W) o0 oa0 c0 C0 M0 o1 oa1 c1 C1 M1 a2).mono fun e W' ⟨he, bel⟩ => ?_
  subst he
  exact ⟨_, rfl, _, _, _, [], _, [], hW', trodAll_mk1 (shut_bool Try.underlying4 _), (trodAll_cons_mk (Below.trod laidOut (by kernel_rfl) (of_decide_eq_true (by kernel_rfl)) k0 bel lt0) (trodAll_cons_mk (Below.trod laidOut (by kernel_rfl) (of_decide_eq_true (by kernel_rfl)) k1 bel lt1) (trodAll_cons_mk (shut_int Try.underlying3 w2) trodAll_mk0))), rfl, bel.frame _, fun h => by cases h⟩

theorem over : Rows.deedApartRow.holds Try.pinned (OpenSpec.ofChange Rows.deedApartSpec) :=
  OpenClaim.holds_of_wide 8 Try.f8 rfl rfl rfl rfl rfl rfl rfl ⟨rfl, rfl, rfl, rfl, rfl⟩ rfl rfl rfl rfl rfl (by kernel_rfl) Try.func8 (by kernel_rfl)
    (of_decide_eq_true (by kernel_rfl)) (by unfold Func.isWrapper; first | (rw [if_pos (by decide +kernel)]; kernel_rfl) | (rw [if_neg (by decide +kernel)]; exact ⟨rfl, rfl⟩))
    (fun os started H enc _ => lifted os started H enc)

/-- the statement -/
theorem proved : Rows.DeedApartSaid := over
#print axioms proved
end Go.Proofs.Ytkgddkpolckacab.deedApart
