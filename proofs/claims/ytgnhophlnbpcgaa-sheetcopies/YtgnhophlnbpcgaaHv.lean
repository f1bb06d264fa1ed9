/- The reference's put and Encode of a script, over this seat's program. -/
import Derived.Test.YtgnhophlnbpcgaaHu
import Derived.Test.YtgnhophlnbpcgaaDr
import Derived.Deep.RegionHeld3
namespace Go.Proofs.Ytgnhophlnbpcgaa
open Go.ChangeShapes Go.WideShapes Go.ChangeAt Go.RowKit
namespace Sh
open De Ba Re

theorem rput5 (n : Int) (h0 : 0 ≤ n) (h1 : n ≤ 1099511627776) (E : ByteArray) (hE : bs (spl n.toNat) = E) (w : World) :
    Calls Try.prog 39 #[.int .i64 n] w fun r w' => r = .returned (.string E) ∧ Below w.heap.size w w' := by
  obtain ⟨m, rfl⟩ : ∃ m : Nat, n = (m : Int) := ⟨n.toNat, by omega⟩
  have HE : Hid (bs (spl m) = E) := by show _ = _; simpa using hE
  have HM : Hid (m ≤ 1099511627776) := by show _ ≤ _; omega
  clear hE
  go_enter Try.func39, Try.ntmps39
  go_wp2_with fail
  refine (rput_ok m HM.out _).mono ?_
  rw [HE.out]
  rintro r w1 ⟨rfl, b1⟩
  have B1 := hide b1
  clear b1
  go_wp2_with fail
  go_ret
  exact ⟨rfl, B1.out⟩
theorem add_bs {K L : List Nat} {E F : ByteArray} (hE : bs K = E) (hF : bs L = F) (h : K.length + L.length ≤ 1000000) : ∃ G, bs (K ++ L) = G ∧ ∀ w, (Op.stringOp .add E F).run Try.prog w = .ok (.string G) w := by
  subst hE
  subst hF
  refine ⟨_, rfl, fun w => ?_⟩
  rw [add_str _ _ w (by rw [bs_size, bs_size]; omega), bs_append]

set_option maxRecDepth 100000 in
set_option maxHeartbeats 3200000 in
theorem rsencode_no (T M : Int) (ps : List (List OpD)) (pl dr : List Int) (pa la da : Option Addr) (pc lc dc : Nat) (w : World) (hS : SAt w ⟨T, M, ps, pl, dr⟩ pa la da) (x : Int) (hx : schk ⟨T, M, ps, pl, dr⟩ = x) (h0 : (x != 0) = true) :
    Calls Try.prog 16 #[.agg #[.int .i64 T, .int .i64 M, .slice pa ps.length pc, .slice la pl.length lc, .slice da dr.length dc]] w fun r w' => r = .returned (.tuple #[.string (bs []), .int .i64 x]) ∧ Below w.heap.size w w' := by
  have S0 := hide (hS.below (below_alloc w (.cells #[.int .i64 T, .int .i64 M, .slice pa ps.length pc, .slice la pl.length lc, .slice da dr.length dc] 38)))
  have B0 := hide (below_alloc w (.cells #[.int .i64 T, .int .i64 M, .slice pa ps.length pc, .slice la pl.length lc, .slice da dr.length dc] 38))
  have HX := hide hx
  clear hS hx
  go_enter Try.func16, Try.ntmps16
  go_wp2_with fail
  refine (rscheck_any T M ps pl dr _ _ _ _ _ _ _ S0.out).mono ?_
  rw [HX.out]
  rintro r w1 ⟨rfl, b1⟩
  have B1 := hide (btr B0.out b1)
  clear b1
  go_wp2_with fail
  go_ret2
  exact ⟨rfl, B1.out⟩

set_option maxRecDepth 100000 in
set_option maxHeartbeats 1600000 in
theorem rsencode_ok (T M : Int) (ps : List (List OpD)) (pl dr : List Int) (pa la da : Option Addr) (pc lc dc : Nat) (w : World) (hS : SAt w ⟨T, M, ps, pl, dr⟩ pa la da) (hx : schk ⟨T, M, ps, pl, dr⟩ = 0) (Z : ByteArray) (hZ : bs (sen ⟨T, M, ps, pl, dr⟩) = Z) :
    Calls Try.prog 16 #[.agg #[.int .i64 T, .int .i64 M, .slice pa ps.length pc, .slice la pl.length lc, .slice da dr.length dc]] w fun r w' => r = .returned (.tuple #[.string Z, .int .i64 0]) ∧ Below w.heap.size w w' := by
  obtain ⟨t12, m12, h32, h8, h200, h64, h0, har, hap, had⟩ := schk_zero hx
  simp only at t12 m12 h32 h8 h200 h64 h0 har hap had
  have S0 := hide (hS.below (below_alloc w (.cells #[.int .i64 T, .int .i64 M, .slice pa ps.length pc, .slice la pl.length lc, .slice da dr.length dc] 38)))
  have B0 := hide (below_alloc w (.cells #[.int .i64 T, .int .i64 M, .slice pa ps.length pc, .slice la pl.length lc, .slice da dr.length dc] 38))
  have X0 := hide (heap_new w (.cells #[.int .i64 T, .int .i64 M, .slice pa ps.length pc, .slice la pl.length lc, .slice da dr.length dc] 38))
  have HX := hide hx
  have HZ := hide hZ
  have AR := hide har
  have AP := hide hap
  have AD := hide had
  have H32 := hide h32
  have EL := hide (eps_len har h32 h8)
  have PL1 := hide (plist_len (mv 1 pl) 200 (by rw [mv_len]; exact h200))
  have PL2 := hide (plist_len dr 64 h64)
  clear hS hx hZ har hap had h32
  obtain ⟨E1, hE1⟩ : ∃ E, bs (spl T.toNat) = E := ⟨_, rfl⟩
  obtain ⟨E2, hE2⟩ : ∃ E, bs (spl M.toNat) = E := ⟨_, rfl⟩
  obtain ⟨E3, hE3⟩ : ∃ E, bs (spl (ps.length : Int).toNat) = E := ⟨_, rfl⟩
  have P1 := hide (rput5 T (by omega) (by omega) E1 hE1)
  have P2 := hide (rput5 M (by omega) (by omega) E2 hE2)
  have P3 := hide (rput5 (ps.length : Int) (by omega) (by omega) E3 hE3)
  have l1 := (spl_len T.toNat).2
  have l2 := (spl_len M.toNat).2
  have l3 := (spl_len (ps.length : Int).toNat).2
  obtain ⟨E12, hE12, ad1⟩ := add_bs hE1 hE2 (by omega)
  obtain ⟨E4, hE4, ad2⟩ := add_bs hE12 hE3 (by rw [List.length_append]; omega)
  obtain ⟨A0, hA0⟩ : ∃ A, spl T.toNat ++ spl M.toNat ++ spl (ps.length : Int).toNat = A := ⟨_, rfl⟩
  have LA : A0.length ≤ 21 := by rw [← hA0]; simp only [List.length_append]; omega
  rw [hA0] at hE4
  have HA0 : Hid (De.pls [T, M, (ps.length : Int)] = A0) := by
    show _ = _
    rw [← hA0]
    simp [De.pls, List.append_assoc]
  have H4 := hide hE4
  clear hE1 hE2 hE3 hE12 hE4 hA0 l1 l2 l3
  go_enter Try.func16, Try.ntmps16
  go_wp2_with fail
  generalize w.alloc (.cells #[.int .i64 T, .int .i64 M, .slice pa ps.length pc, .slice la pl.length lc, .slice da dr.length dc] 38) = W at S0 B0 X0 ⊢
  refine (rscheck_any T M ps pl dr _ _ _ _ _ _ _ S0.out).mono ?_
  rw [HX.out]
  rintro r w1 ⟨rfl, b1⟩
  have S1 := hide (S0.out.below b1)
  have B1 := hide (btr B0.out b1)
  have X1 := hide (heap_below X0.out b1)
  clear b1 S0 B0 X0
  obtain ⟨x0, x1, x2, x3, x4⟩ := sc_cells X1.out
  go_wp2_with fail
  go_region_held3 (fun w' => w'.cell? ⟨w.heap.size, 0, none⟩ = some (.int .i64 T) ∧ w'.cell? ⟨w.heap.size, 1, none⟩ = some (.int .i64 M) ∧ w'.cell? ⟨w.heap.size, 2, none⟩ = some (.slice pa ps.length pc))
    (first
      | go_keep
      | (go_split_ands
         first
           | (refine ⟨?_, ?_, ?_⟩ <;> (refine cellB ?_ c3; assumption))
           | (refine ⟨?_, ?_, ?_⟩ <;> (refine cellB ?_ c2; assumption))
           | (refine ⟨?_, ?_, ?_⟩ <;> (refine cellB ?_ c1; assumption))))
    (first
      | (go_at_call_of 39 (Value.int IntKind.i64 T); refine (P1.out _).mono ?_; rintro r u1 ⟨rfl, c1⟩)
      | (go_at_call_of 39 (Value.int IntKind.i64 M); refine (P2.out _).mono ?_; rintro r u2 ⟨rfl, c2⟩)
      | (go_at_call 39; refine (P3.out _).mono ?_; rintro r u3 ⟨rfl, c3⟩))
  have D1 := btr (bdrew1 w1) (btr (btr c1 c2) c3)
  have S2 := hide (S1.out.below D1)
  have B2 := hide (btr B1.out D1)
  have X2 := hide (heap_below X1.out D1)
  clear D1 c1 c2 c3 S1 B1 X1 ad1 ad2 P1 P2 P3
  clear x0 x1 x2 x3 x4
  obtain ⟨x0, x1, x2, x3, x4⟩ := sc_cells X2.out
  go_wp2_with fail
  go_loopw [5, 39] (fun s i wr => ∃ (k : Nat) (E : ByteArray), k ≤ ps.length ∧ s = .string E ∧ i = .int .i64 k ∧ bs (A0 ++ eps (ps.take k)) = E ∧ Below u3.heap.size u3 wr) (fun _ i _ => ps.length - (intOf i).toNat)
  case atStart => exact ⟨0, E4, Nat.zero_le _, rfl, rfl, by simpa [eps] using H4.out, Below.refl _ _⟩
  case round =>
    rename World => w0
    obtain ⟨k, E, hk, rfl, rfl, hE, bw⟩ := hrel
    have HE := hide hE
    have BW := hide bw
    clear hE bw
    by_cases hlt : k < ps.length
    · have hlt' : (k : Int) < (ps.length : Int) := by omega
      obtain ⟨q, hq⟩ : ∃ q, ps[k]? = some q := ⟨ps[k], by simp [hlt]⟩
      obtain ⟨b, off, qa, qc, e1, hc, hO, hm⟩ := (S2.out.ps.below BW.out) k q hq
      subst e1
      have hq32 := H32.out q (List.mem_of_getElem? hq)
      have HQ := hide hq
      have HO := hide hO
      clear hq hO hm
      obtain ⟨F, hF⟩ : ∃ F, bs (spl (q.length : Int).toNat) = F := ⟨_, rfl⟩
      have PQ := hide (rput5 (q.length : Int) (by omega) (by omega) F hF)
      have ll := (spl_len (q.length : Int).toNat).2
      have le := EL.out k
      obtain ⟨E5, hE5, ad⟩ := add_bs HE.out hF (by rw [List.length_append]; omega)
      obtain ⟨A5, hA5⟩ : ∃ A, A0 ++ eps (ps.take k) ++ spl (q.length : Int).toNat = A := ⟨_, rfl⟩
      rw [hA5] at hE5
      have L5 : A5.length ≤ 190000 := by rw [← hA5]; simp only [List.length_append]; omega
      have HA5 := hide hA5
      have HE5 := hide hE5
      clear hA5 hE5 hF ll le
      go_wp2_with fail
      refine (PQ.out _).mono ?_
      rintro r v1 ⟨rfl, d1⟩
      have BV := hide d1
      have HO := hide (HO.out.below d1)
      clear d1
      go_wp2_with fail
      clear ad
      have OL := hide (ops_len AR.out (List.mem_of_getElem? HQ.out) hq32)
      go_loopw [5, 50] (fun s i wr => ∃ (j : Nat) (E : ByteArray), j ≤ q.length ∧ s = .string E ∧ i = .int .i64 j ∧ bs (A5 ++ (q.take j).flatMap eop) = E ∧ Below v1.heap.size v1 wr) (fun _ i _ => q.length - (intOf i).toNat)
      case atStart => exact ⟨0, E5, Nat.zero_le _, rfl, rfl, by simpa using HE5.out, Below.refl _ _⟩
      case round =>
        obtain ⟨j, E, hj, rfl, rfl, hE, bw⟩ := hrel
        have HG := hide hE
        have B6 := hide bw
        clear hE bw
        by_cases hjl : j < q.length
        · have hjl' : (j : Int) < (q.length : Int) := by omega
          obtain ⟨o, ho⟩ : ∃ o, q[j]? = some o := ⟨q[j], by simp [hjl]⟩
          obtain ⟨b', off', ca, cc, e2, ⟨y0, y1, y2, y3, y4⟩, hC, hM⟩ := (HO.out.below B6.out) j o ho
          subst e2
          have hz := ari_mem AR.out (List.mem_of_getElem? HQ.out) (List.mem_of_getElem? ho)
          have TK := hide (flat_take eop q j o ho)
          have lo := eop_len o (chk_zero hz).2.2.1
          have HZ2 := hide hz
          have HC := hide hC
          clear ho hC hM hz
          have B7 := hide (btr B6.out (below_alloc wr (.cells #[.int .i64 o.kind, .int .i64 o.a, .int .i64 o.b, .slice ca o.cases.length cc, .bool o.def_] 24)))
          have C7 := hide (HC.out.below (below_alloc wr (.cells #[.int .i64 o.kind, .int .i64 o.a, .int .i64 o.b, .slice ca o.cases.length cc, .bool o.def_] 24)))
          have X7 := hide (heap_below (heap_below (heap_below X2.out BW.out) BV.out) B7.out)
          obtain ⟨v0, v1', v2, v3, v4⟩ := sc_cells X7.out
          obtain ⟨F, hF⟩ : ∃ F, bs (De.pls (nums o)) = F := ⟨_, rfl⟩
          have lj := OL.out j
          obtain ⟨E8, hE8, ad⟩ := add_bs HG.out hF (by rw [List.length_append]; change _ + (eop o).length ≤ _; omega)
          have HF := hide hF
          have H8 : Hid (bs (A5 ++ (q.take (j + 1)).flatMap eop) = E8) := by
            show _ = _
            rw [TK.out, ← List.append_assoc]
            exact hE8
          clear hF hE8 lj lo
          go_wp2_with fail
          refine (rencode_ok o ca cc _ _ C7.out (chk_zero HZ2.out).2.2.1 HZ2.out (nums_ok HZ2.out)).mono ?_
          rw [HF.out]
          rintro r w8 ⟨rfl, b8⟩
          have B8 := hide (btr B7.out b8)
          clear b8
          go_wp2_with fail
          go_roundw
          case rel => exact ⟨j + 1, E8, by omega, rfl, by go_num, H8.out, B8.out⟩
          case measure => simp [intOf]; omega
        · have hjl' : ¬ ((j : Int) < (q.length : Int)) := by omega
          have H8 : Hid (bs (A0 ++ eps (ps.take (k + 1))) = E) := by
            show _ = _
            have e : j = q.length := by omega
            have g := HG.out
            rw [e, List.take_length, ← HA5.out] at g
            rw [eps, flat_take epr ps k q HQ.out, ← g, epr]
            simp [eps, List.append_assoc]
          go_wp2_with fail
          go_roundw
          case rel => exact ⟨k + 1, E, by omega, rfl, by go_num, H8.out, btr BW.out (btr BV.out B6.out)⟩
          case measure => simp [intOf]; omega
    · have hlt' : ¬ ((k : Int) < (ps.length : Int)) := by omega
      have HE9 : Hid (bs (A0 ++ eps ps) = E) := by
        show _ = _
        have g := HE.out
        rw [List.take_of_length_le (by omega)] at g
        exact g
      have S9 := hide (S2.out.below BW.out)
      have B9 := hide (btr B2.out BW.out)
      have X9 := hide (heap_below X2.out BW.out)
      clear HE S2 B2 X2 BW x0 x1 x2 x3 x4
      obtain ⟨x0, x1, x2, x3, x4⟩ := sc_cells X9.out
      obtain ⟨i0, hi, hz0, hz1, hz2⟩ := info_parts info_int
      have INF := hide (And.intro hi (And.intro hz0 (And.intro hz1 hz2)))
      clear hi hz0 hz1 hz2
      go_wp2_with fail
      go_loopw [12, 70] (fun o i wr => ∃ (j : Nat) (v : Value), j ≤ pl.length ∧ i = .int .i64 (j : Int) ∧ o = v ∧ wr.ownsRow w0.heap.size 3 1 v j (((mv 1 pl).take j).map (Value.int .i64)) ∧ Below w0.heap.size w0 wr) (fun _ i _ => pl.length - (intOf i).toNat)
      case atStart => exact ⟨0, _, Nat.zero_le _, rfl, rfl, World.ownsRow_nil _ _ _ _, Below.refl _ _⟩
      case round =>
        obtain ⟨j, v, hj, rfl, rfl, hown, hb⟩ := hrel
        by_cases hjl : j < pl.length
        · have hjl' : (j : Int) < (pl.length : Int) := by omega
          obtain ⟨b', off, e, q1⟩ := (S9.out.pl.below hb) j hjl
          subst e
          have hx := ab_nth.1 AP.out j hjl
          have EX : Hid ((mv 1 pl).take (j + 1) = (mv 1 pl).take j ++ [nth pl j + 1]) := by
            show _ = _
            have hl2 : j < (mv 1 pl).length := by rw [mv_len]; exact hjl
            rw [← nth_mv 1 pl j hjl, nth_lt _ j hl2, List.take_append_getElem]
          have BB := below_alloc wr (.cells #[.int .i64 (nth pl j + 1)] 3)
          obtain ⟨X, hX⟩ : ∃ X : List Int, (mv 1 pl).take j = X := ⟨_, rfl⟩
          rw [hX] at hown EX
          have OW := hide (owns_below hown BB)
          have HB := hide (btr hb BB)
          clear hown hb BB hX
          go_wp2_with (at_builtin; refine wpList_append_own _ rfl _ _ 36 rfl w0.heap.size 3 i0 (.int .i64 0) 1 8 Try.underlying36 INF.out.1 INF.out.2.1 INF.out.2.2.1 INF.out.2.2.2 rfl (by decide) _ _ _ rfl OW.out ⟨wr.heap.size, 0, none⟩ 1 1 [.int .i64 (nth pl j + 1)] rfl rfl ?c1 ?c2 ?c3 ?c4 ?c5 ?_)
          first | (case c1 => exact src_new wr [nth pl j + 1]) | skip
          case c2 => first | rfl | (intro u hu; simp at hu; subst hu; rfl)
          case c3 => unfold maxLen; omega
          case c4 => omega
          case c5 => first | exact HB.out.size | (have := HB.out.size; rw [World.size_alloc] at this; exact this)
          intro v' w3 hown' hgrow _
          have B3 : Hid (Below w0.heap.size w0 w3) := HB.out.grown hgrow HB.out.size (fun x hx => (OW.out.lt x hx).1)
          have O3 : Hid (w3.ownsRow w0.heap.size 3 1 v' (j + 1) (((mv 1 pl).take (j + 1)).map (Value.int .i64))) := by
            show World.ownsRow _ _ _ _ _ _ _
            rw [EX.out, List.map_append]
            exact hown'
          clear hown' hgrow
          go_wp2_with fail
          go_roundw
          case rel =>
            first
              | exact ⟨j + 1, v', by omega, by go_num, rfl, O3.out, B3.out⟩
              | ((repeat apply Exists.intro); exact ⟨⟨j + 1, v', by omega, by go_num, rfl, O3.out, B3.out⟩, rfl⟩)
          case measure => simp [intOf]; omega
        · have hjl' : ¬ ((j : Int) < (pl.length : Int)) := by omega
          have e : j = pl.length := by omega
          subst e
          rw [List.take_of_length_le (by rw [mv_len]; omega)] at hown
          obtain ⟨oa', c', hv', hat'⟩ := owns_at (l := mv 1 pl) (by rw [mv_len]; exact hown)
          subst hv'
          have AT := hide hat'
          have BA := hide (btr B9.out hb)
          have SA := hide (S9.out.below hb)
          have XA := hide (heap_below X9.out hb)
          clear hown hat' hb S9 B9 X9 x0 x1 x2 x3 x4
          obtain ⟨F1, hF1⟩ : ∃ F, bs (plist (mv 1 pl)) = F := ⟨_, rfl⟩
          obtain ⟨F2, hF2⟩ : ∃ F, bs (plist dr) = F := ⟨_, rfl⟩
          have R1 : Hid (∀ (oa : Option Addr) (c : Nat) (w : World), At w oa (mv 1 pl) → Calls Try.prog 41 #[.slice oa (mv 1 pl).length c] w fun r w' => r = .returned (.tuple #[.string F1, .int .i64 0]) ∧ Below w.heap.size w w') := fun oa c w hA => by
            have := rputlist_any oa (mv 1 pl) c w hA (by rw [mv_len]; omega)
            rw [mv_okR AP.out, hF1] at this
            exact this
          have R2 : Hid (∀ (oa : Option Addr) (c : Nat) (w : World), At w oa dr → Calls Try.prog 41 #[.slice oa dr.length c] w fun r w' => r = .returned (.tuple #[.string F2, .int .i64 0]) ∧ Below w.heap.size w w') := fun oa c w hA => by
            have := rputlist_any oa dr c w hA (by omega)
            rw [ab_okR AD.out (by decide) (by decide), hF2] at this
            exact this
          have le := EL.out ps.length
          rw [List.take_length] at le
          have lp1 := PL1.out
          have lp2 := PL2.out
          obtain ⟨G1, hG1, ad1⟩ := add_bs HE9.out hF1 (by rw [List.length_append]; omega)
          obtain ⟨G2, hG2, ad2⟩ := add_bs hG1 hF2 (by simp only [List.length_append]; omega)
          have FIN : Hid (G2 = Z) := by
            show _ = _
            rw [← hG2, ← HZ.out, sen_is HA0.out]
          clear le lp1 lp2 hF1 hF2 hG1 hG2
          go_wp2_with fail
          refine (R1.out _ _ _ AT.out).mono ?_
          rintro r wB ⟨rfl, bB⟩
          have BC := hide (btr BA.out bB)
          have SD := hide (SA.out.below bB)
          have XD := hide (heap_below XA.out bB)
          clear bB
          obtain ⟨x0, x1, x2, x3, x4⟩ := sc_cells XD.out
          go_wp2_with fail
          refine (R2.out _ _ _ SD.out.dr).mono ?_
          rintro r wE ⟨rfl, bE⟩
          have BE := hide (btr BC.out bE)
          clear bE
          go_wp2_with fail
          go_ret2
          exact ⟨by rw [← FIN.out]; rfl, BE.out⟩
end Sh
end Go.Proofs.Ytgnhophlnbpcgaa
