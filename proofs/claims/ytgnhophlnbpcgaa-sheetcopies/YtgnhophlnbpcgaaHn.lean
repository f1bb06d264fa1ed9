/- The laws' own Script, over this seat's program. -/
import Derived.Test.YtgnhophlnbpcgaaHm
import Derived.Test.YtgnhophlnbpcgaaDi
import Derived.Deep.RegionHeld3
namespace Go.Proofs.Ytgnhophlnbpcgaa
open Go.ChangeShapes Go.WideShapes Go.ChangeAt Go.RowKit
namespace Sh
open De Ba Re

/-- a bool that says whether p -/
def SR (p : Prop) (r : Ending) : Prop := ∃ b, r = .returned (.bool b) ∧ (b = true ↔ p)
theorem mem_ops {w : World} {oa : Option Addr} {l : List OpD} (h : OAt w oa l) {k : Nat} {o : OpD} (hk : l[k]? = some o) : ∃ b off ca cc, oa = some ⟨b, off, none⟩ ∧ (w.cell? ⟨b, off + k * 5, none⟩ = some (.int .i64 o.kind) ∧ w.cell? ⟨b, off + k * 5 + 1, none⟩ = some (.int .i64 o.a) ∧ w.cell? ⟨b, off + k * 5 + 2, none⟩ = some (.int .i64 o.b) ∧ w.cell? ⟨b, off + k * 5 + 3, none⟩ = some (.slice ca o.cases.length cc) ∧ w.cell? ⟨b, off + k * 5 + 4, none⟩ = some (.bool o.def_)) ∧ CAt w ca o.cases ∧ o.cases.length ≤ maxLen := h k o hk

set_option maxRecDepth 100000 in
set_option maxHeartbeats 6400000 in
theorem script_loop (T M : Int) (ps1 ps2 : List (List OpD)) (pl dr : List Int) (pa1 la1 da1 pa2 la2 da2 : Option Addr) (pc1 lc1 dc1 pc2 lc2 dc2 : Nat) (w : World) (hS1 : SAt w ⟨T, M, ps1, pl, dr⟩ pa1 la1 da1) (hS2 : SAt w ⟨T, M, ps2, pl, dr⟩ pa2 la2 da2) (hn : ps1.length = ps2.length) (h1 : Small ps1 pl dr) (h2 : ∀ q ∈ ps2, ∀ o ∈ q, o.cases.length ≤ 3000) :
    Calls Try.prog 21 #[.agg #[.int .i64 T, .int .i64 M, .slice pa1 ps1.length pc1, .slice la1 pl.length lc1, .slice da1 dr.length dc1], .agg #[.int .i64 T, .int .i64 M, .slice pa2 ps1.length pc2, .slice la2 pl.length lc2, .slice da2 dr.length dc2]] w fun r w' => SR (ps1 = ps2) r ∧ Below w.heap.size w w' := by
  have B0 := hide (btr (below_alloc w (.cells #[.int .i64 T, .int .i64 M, .slice pa1 ps1.length pc1, .slice la1 pl.length lc1, .slice da1 dr.length dc1] 38)) (below_alloc (w.alloc (.cells #[.int .i64 T, .int .i64 M, .slice pa1 ps1.length pc1, .slice la1 pl.length lc1, .slice da1 dr.length dc1] 38)) (.cells #[.int .i64 T, .int .i64 M, .slice pa2 ps1.length pc2, .slice la2 pl.length lc2, .slice da2 dr.length dc2] 38)))
  have X1 := hide (heap_below (heap_new w (.cells #[.int .i64 T, .int .i64 M, .slice pa1 ps1.length pc1, .slice la1 pl.length lc1, .slice da1 dr.length dc1] 38)) (below_alloc (w.alloc (.cells #[.int .i64 T, .int .i64 M, .slice pa1 ps1.length pc1, .slice la1 pl.length lc1, .slice da1 dr.length dc1] 38)) (.cells #[.int .i64 T, .int .i64 M, .slice pa2 ps1.length pc2, .slice la2 pl.length lc2, .slice da2 dr.length dc2] 38)))
  have X2 : Hid (((w.alloc (.cells #[.int .i64 T, .int .i64 M, .slice pa1 ps1.length pc1, .slice la1 pl.length lc1, .slice da1 dr.length dc1] 38)).alloc (.cells #[.int .i64 T, .int .i64 M, .slice pa2 ps1.length pc2, .slice la2 pl.length lc2, .slice da2 dr.length dc2] 38)).heap[w.heap.size + 1]? = some (.cells #[.int .i64 T, .int .i64 M, .slice pa2 ps1.length pc2, .slice la2 pl.length lc2, .slice da2 dr.length dc2] 38 (0, 0))) := by
    have := heap_new (w.alloc (.cells #[.int .i64 T, .int .i64 M, .slice pa1 ps1.length pc1, .slice la1 pl.length lc1, .slice da1 dr.length dc1] 38)) (.cells #[.int .i64 T, .int .i64 M, .slice pa2 ps1.length pc2, .slice la2 pl.length lc2, .slice da2 dr.length dc2] 38)
    rw [World.size_alloc] at this
    exact this
  have p1 := h1.p
  have d1 := h1.d
  have n1 := h1.n
  have Q1 := hide h1.q
  have C1 := hide h1.c
  have C2 := hide h2
  have HN := hide hn
  have S1 := hide (hS1.below B0.out)
  have S2 := hide (hS2.below B0.out)
  clear hS1 hS2 h1 h2 hn
  go_enter Try.func21, Try.ntmps21
  go_wp2_with fail
  generalize (w.alloc (.cells #[.int .i64 T, .int .i64 M, .slice pa1 ps1.length pc1, .slice la1 pl.length lc1, .slice da1 dr.length dc1] 38)).alloc (.cells #[.int .i64 T, .int .i64 M, .slice pa2 ps1.length pc2, .slice la2 pl.length lc2, .slice da2 dr.length dc2] 38) = W at B0 X1 X2 S1 S2 ⊢
  refine (ints_is la1 la2 pl pl _ _ lc1 lc2 true (by simp) rfl rfl _ S1.out.pl S2.out.pl (by omega) (by omega)).mono ?_
  rintro r w3 ⟨rfl, b3⟩
  have B3 := hide b3
  obtain ⟨x0, x1, x2, x3, x4⟩ := sc_cells (heap_below X1.out b3)
  obtain ⟨y0, y1, y2, y3, y4⟩ := sc_cells (heap_below X2.out b3)
  have D1 := hide (S1.out.dr.below b3)
  have D2 := hide (S2.out.dr.below b3)
  clear b3
  go_wp2_with fail
  refine (ints_is da1 da2 dr dr _ _ dc1 dc2 true (by simp) rfl rfl _ D1.out D2.out (by omega) (by omega)).mono ?_
  rintro r w4 ⟨rfl, b4⟩
  have B4 := hide (btr B3.out b4)
  obtain ⟨x0, x1, x2, x3, x4⟩ := sc_cells (heap_below X1.out B4.out)
  obtain ⟨y0, y1, y2, y3, y4⟩ := sc_cells (heap_below X2.out B4.out)
  clear b4 B3 D1 D2
  go_wp2_with fail
  go_loopw [47] (fun i wr => ∃ k : Nat, k ≤ ps1.length ∧ i = .int .i64 k ∧ (∀ t, t < k → ps1[t]? = ps2[t]?) ∧ Below W.heap.size W wr) (fun i _ => ps1.length - (intOf i).toNat)
  case atStart => exact ⟨0, Nat.zero_le _, rfl, fun t ht => absurd ht (Nat.not_lt_zero _), B4.out⟩
  case round =>
    clear x0 x1 x2 x3 x4 y0 y1 y2 y3 y4 B4
    rename World => w5
    obtain ⟨k, hk, rfl, hall, b5⟩ := hrel
    have HE := hide hall
    have B5 := hide b5
    obtain ⟨-, -, x2, -, -⟩ := sc_cells (heap_below X1.out b5)
    obtain ⟨-, -, y2, -, -⟩ := sc_cells (heap_below X2.out b5)
    clear hall b5
    by_cases hlt : k < ps1.length
    · have hlt' : (k : Int) < (ps1.length : Int) := by omega
      obtain ⟨q1, hq1⟩ : ∃ q, ps1[k]? = some q := ⟨ps1[k], by simp [hlt]⟩
      obtain ⟨q2, hq2⟩ : ∃ q, ps2[k]? = some q := ⟨ps2[k]'(by have := HN.out; omega), by simp⟩
      obtain ⟨b1, o1, qa1, qc1, e1, c1, hO1, m1⟩ := (S1.out.below B5.out).ps k q1 hq1
      obtain ⟨b2, o2, qa2, qc2, e2, c2, hO2, m2⟩ := (S2.out.below B5.out).ps k q2 hq2
      subst e1 e2
      have m1q := List.mem_of_getElem? hq1
      have m2q := List.mem_of_getElem? hq2
      have l1 := Q1.out q1 m1q
      have CC1 := hide (C1.out q1 m1q)
      have CC2 := hide (C2.out q2 m2q)
      have HQ1 := hide hq1
      have HQ2 := hide hq2
      have O1 := hide hO1
      have O2 := hide hO2
      unfold maxLen at m1 m2
      clear hq1 hq2 hO1 hO2 m1q m2q
      by_cases hll : q1.length = q2.length
      · have hll' : ((q1.length : Int) != (q2.length : Int)) = false := by simp; omega
        have HLL := hide hll
        clear hll
        go_wp2_with fail
        go_quiet (fail)
        go_wp2_with fail
        go_loopw [69] (fun i wr => ∃ j : Nat, j ≤ q1.length ∧ i = .int .i64 j ∧ (∀ t, t < j → q1[t]? = q2[t]?) ∧ Below w5.heap.size w5 wr) (fun i _ => q1.length - (intOf i).toNat)
        case atStart => exact ⟨0, Nat.zero_le _, rfl, fun t ht => absurd ht (Nat.not_lt_zero _), bdrew _ _⟩
        case round =>
          obtain ⟨j, hj, rfl, hal2, b6⟩ := hrel
          have HF := hide hal2
          have B6 := hide b6
          clear hal2 b6
          by_cases hjl : j < q1.length
          · have hjl' : (j : Int) < (q1.length : Int) := by omega
            have hjl2 : (j : Int) < (q2.length : Int) := by have := HLL.out; omega
            obtain ⟨p, hp⟩ : ∃ p, q1[j]? = some p := ⟨q1[j], by simp [hjl]⟩
            obtain ⟨p', hp'⟩ : ∃ p, q2[j]? = some p := ⟨q2[j]'(by have := HLL.out; omega), by simp⟩
            obtain ⟨d1', f1', ca1, cc1, g1, ⟨u0, u1, u2, u3, u4⟩, hC1, -⟩ := (O1.out.below B6.out) j p hp
            obtain ⟨d2', f2', ca2, cc2, g2, ⟨v0, v1, v2, v3, v4⟩, hC2, -⟩ := (O2.out.below B6.out) j p' hp'
            subst g1 g2
            have k1 := CC1.out p (List.mem_of_getElem? hp)
            have k2 := CC2.out p' (List.mem_of_getElem? hp')
            have HP1 := hide hp
            have HP2 := hide hp'
            have HC1 := hide hC1
            have HC2 := hide hC2
            have z1 := cellB x2 B6.out
            have z2 := cellB y2 B6.out
            have z3 := cellB c1 B6.out
            have z4 := cellB c2 B6.out
            clear hp hp' hC1 hC2
            go_wp2_with fail
            go_region_held3 (fun w' => w'.cell? ⟨w.heap.size, 2, none⟩ = some (.slice (some ⟨b1, o1, none⟩) ps1.length pc1) ∧ w'.cell? ⟨w.heap.size + 1, 2, none⟩ = some (.slice (some ⟨b2, o2, none⟩) ps1.length pc2) ∧ w'.cell? ⟨b1, o1 + k, none⟩ = some (.slice (some ⟨d1', f1', none⟩) q1.length qc1) ∧ w'.cell? ⟨b2, o2 + k, none⟩ = some (.slice (some ⟨d2', f2', none⟩) q2.length qc2) ∧ w'.cell? ⟨d1', f1' + j * 5, none⟩ = some (.int .i64 p.kind) ∧ w'.cell? ⟨d1', f1' + j * 5 + 1, none⟩ = some (.int .i64 p.a) ∧ w'.cell? ⟨d1', f1' + j * 5 + 2, none⟩ = some (.int .i64 p.b) ∧ w'.cell? ⟨d1', f1' + j * 5 + 3, none⟩ = some (.slice ca1 p.cases.length cc1) ∧ w'.cell? ⟨d1', f1' + j * 5 + 4, none⟩ = some (.bool p.def_) ∧ w'.cell? ⟨d2', f2' + j * 5, none⟩ = some (.int .i64 p'.kind) ∧ w'.cell? ⟨d2', f2' + j * 5 + 1, none⟩ = some (.int .i64 p'.a) ∧ w'.cell? ⟨d2', f2' + j * 5 + 2, none⟩ = some (.int .i64 p'.b) ∧ w'.cell? ⟨d2', f2' + j * 5 + 3, none⟩ = some (.slice ca2 p'.cases.length cc2) ∧ w'.cell? ⟨d2', f2' + j * 5 + 4, none⟩ = some (.bool p'.def_))
              (first
                | go_keep
                | (go_split_ands
                   refine ⟨?_, ?_, ?_, ?_, ?_, ?_, ?_, ?_, ?_, ?_, ?_, ?_, ?_, ?_⟩ <;> (refine cellB ?_ b7; assumption)))
              ((go_at_call 11; refine (plain_big p p' ca1 ca2 cc1 cc2 _ (HC1.out.below (bdrew1 _)) (HC2.out.below (bdrew1 _)) (by omega) (by omega)).mono ?_; rintro r w7 ⟨⟨x, rfl, hx⟩, b7⟩))
            have B7 := hide (btr B6.out (btr (bdrew1 wr) b7))
            have HX := hide hx
            clear hx
            cases x
            · have NE : Hid (ps1 ≠ ps2) := by
                intro e
                have h := HQ1.out
                rw [e, HQ2.out] at h
                cases h
                have h2 := HP1.out
                rw [HP2.out] at h2
                cases h2
                exact absurd (HX.out.2 rfl) (by decide)
              go_wp2_with fail
              go_ret
              exact ⟨⟨false, rfl, by simp; exact NE.out⟩, btr B0.out (btr B5.out B7.out)⟩
            · have EQ := hide (HX.out.1 rfl)
              go_wp2_with fail
              go_roundw
              case rel => exact ⟨j + 1, by omega, by go_num, fun t ht => by
                by_cases e : t = j
                · subst e; rw [HP1.out, HP2.out, EQ.out]
                · exact HF.out t (by omega), B7.out⟩
              case measure => simp [intOf]; omega
          · have hjl' : ¬ ((j : Int) < (q1.length : Int)) := by omega
            have HQ : Hid (q1 = q2) := List.ext_getElem? fun t => by
              by_cases ht : t < j
              · exact HF.out t ht
              · have := HLL.out
                rw [List.getElem?_eq_none (by omega), List.getElem?_eq_none (by omega)]
            go_wp2_with fail
            go_roundw
            case rel => exact ⟨k + 1, by omega, by go_num, fun t ht => by
              by_cases e : t = k
              · subst e; rw [HQ1.out, HQ2.out, HQ.out]
              · exact HE.out t (by omega), btr B5.out B6.out⟩
            case measure => simp [intOf]; omega
      · have hll' : ((q1.length : Int) != (q2.length : Int)) = true := by simp; omega
        have NE : Hid (ps1 ≠ ps2) := by
          intro e
          have h := HQ1.out
          rw [e, HQ2.out] at h
          cases h
          exact hll rfl
        clear hll
        go_wp2_with fail
        go_quiet (fail)
        go_wp2_with fail
        go_ret
        exact ⟨⟨false, rfl, by simp; exact NE.out⟩, btr B0.out (btr B5.out (bdrew _ _))⟩
    · have hlt' : ¬ ((k : Int) < (ps1.length : Int)) := by omega
      have EQ : Hid (ps1 = ps2) := List.ext_getElem? fun t => by
        by_cases ht : t < k
        · exact HE.out t ht
        · have := HN.out
          rw [List.getElem?_eq_none (by omega), List.getElem?_eq_none (by omega)]
      go_wp2_with fail
      go_ret
      exact ⟨⟨true, rfl, by simp; exact EQ.out⟩, btr B0.out B5.out⟩
set_option maxRecDepth 100000 in
set_option maxHeartbeats 3200000 in
theorem script_any (T1 M1 : Int) (ps1 : List (List OpD)) (pl1 dr1 : List Int) (T2 M2 : Int) (ps2 : List (List OpD)) (pl2 dr2 : List Int) (pa1 la1 da1 pa2 la2 da2 : Option Addr) (pc1 lc1 dc1 pc2 lc2 dc2 : Nat) (w : World) (hS1 : SAt w ⟨T1, M1, ps1, pl1, dr1⟩ pa1 la1 da1) (hS2 : SAt w ⟨T2, M2, ps2, pl2, dr2⟩ pa2 la2 da2) (h1 : Small ps1 pl1 dr1) (h2 : Small ps2 pl2 dr2) :
    Calls Try.prog 21 #[.agg #[.int .i64 T1, .int .i64 M1, .slice pa1 ps1.length pc1, .slice la1 pl1.length lc1, .slice da1 dr1.length dc1], .agg #[.int .i64 T2, .int .i64 M2, .slice pa2 ps2.length pc2, .slice la2 pl2.length lc2, .slice da2 dr2.length dc2]] w fun r w' => SR ((⟨T1, M1, ps1, pl1, dr1⟩ : Sc) = ⟨T2, M2, ps2, pl2, dr2⟩) r ∧ Below w.heap.size w w' := by
  have B0 := hide (btr (below_alloc w (.cells #[.int .i64 T1, .int .i64 M1, .slice pa1 ps1.length pc1, .slice la1 pl1.length lc1, .slice da1 dr1.length dc1] 38)) (below_alloc (w.alloc (.cells #[.int .i64 T1, .int .i64 M1, .slice pa1 ps1.length pc1, .slice la1 pl1.length lc1, .slice da1 dr1.length dc1] 38)) (.cells #[.int .i64 T2, .int .i64 M2, .slice pa2 ps2.length pc2, .slice la2 pl2.length lc2, .slice da2 dr2.length dc2] 38)))
  have X1 := hide (heap_below (heap_new w (.cells #[.int .i64 T1, .int .i64 M1, .slice pa1 ps1.length pc1, .slice la1 pl1.length lc1, .slice da1 dr1.length dc1] 38)) (below_alloc (w.alloc (.cells #[.int .i64 T1, .int .i64 M1, .slice pa1 ps1.length pc1, .slice la1 pl1.length lc1, .slice da1 dr1.length dc1] 38)) (.cells #[.int .i64 T2, .int .i64 M2, .slice pa2 ps2.length pc2, .slice la2 pl2.length lc2, .slice da2 dr2.length dc2] 38)))
  have X2 : Hid (((w.alloc (.cells #[.int .i64 T1, .int .i64 M1, .slice pa1 ps1.length pc1, .slice la1 pl1.length lc1, .slice da1 dr1.length dc1] 38)).alloc (.cells #[.int .i64 T2, .int .i64 M2, .slice pa2 ps2.length pc2, .slice la2 pl2.length lc2, .slice da2 dr2.length dc2] 38)).heap[w.heap.size + 1]? = some (.cells #[.int .i64 T2, .int .i64 M2, .slice pa2 ps2.length pc2, .slice la2 pl2.length lc2, .slice da2 dr2.length dc2] 38 (0, 0))) := by
    have := heap_new (w.alloc (.cells #[.int .i64 T1, .int .i64 M1, .slice pa1 ps1.length pc1, .slice la1 pl1.length lc1, .slice da1 dr1.length dc1] 38)) (.cells #[.int .i64 T2, .int .i64 M2, .slice pa2 ps2.length pc2, .slice la2 pl2.length lc2, .slice da2 dr2.length dc2] 38)
    rw [World.size_alloc] at this
    exact this
  have p1 := h1.p
  have p2 := h2.p
  have d1 := h1.d
  have d2 := h2.d
  have n1 := h1.n
  have n2 := h2.n
  have S1 := hide (hS1.below B0.out)
  have S2 := hide (hS2.below B0.out)
  by_cases hT : T1 = T2
  rotate_left
  · have hT' : (T1 != T2) = true := by simpa using hT
    have HT := hide hT
    clear hT hS1 hS2
    go_enter Try.func21, Try.ntmps21
    go_wp2_with fail
    go_ret
    exact ⟨⟨false, rfl, by simp; intro e; exact absurd e HT.out⟩, B0.out⟩
  have hT' : (T1 != T2) = false := by simpa using hT
  by_cases hM : M1 = M2
  rotate_left
  · have hM' : (M1 != M2) = true := by simpa using hM
    have HT := hide hM
    clear hM hT hS1 hS2
    go_enter Try.func21, Try.ntmps21
    go_wp2_with fail
    go_ret
    exact ⟨⟨false, rfl, by simp; intro _ e; exact absurd e HT.out⟩, B0.out⟩
  have hM' : (M1 != M2) = false := by simpa using hM
  by_cases hN : ps1.length = ps2.length
  rotate_left
  · have hN' : ((ps1.length : Int) != (ps2.length : Int)) = true := by simp; omega
    have HT : Hid (ps1 ≠ ps2) := fun e => hN (by rw [e])
    clear hM hT hN hS1 hS2
    go_enter Try.func21, Try.ntmps21
    go_wp2_with fail
    go_ret
    exact ⟨⟨false, rfl, by simp; intro _ _ e; exact absurd e HT.out⟩, B0.out⟩
  have hN' : ((ps1.length : Int) != (ps2.length : Int)) = false := by simp; omega
  by_cases hP : pl1 = pl2
  rotate_left
  · have HT := hide hP
    clear hM hT hN hP hS1 hS2
    go_enter Try.func21, Try.ntmps21
    go_wp2_with fail
    refine (ints_is la1 la2 pl1 pl2 _ _ lc1 lc2 false (by simpa using HT.out) rfl rfl _ S1.out.pl S2.out.pl (by omega) (by omega)).mono ?_
    rintro r w3 ⟨rfl, b3⟩
    have B3 := hide (btr B0.out b3)
    clear b3
    go_wp2_with fail
    go_ret
    exact ⟨⟨false, rfl, by simp; intro _ _ _ e; exact absurd e HT.out⟩, B3.out⟩
  by_cases hD : dr1 = dr2
  rotate_left
  · have HT := hide hD
    have HP := hide hP
    clear hM hT hN hP hD hS1 hS2
    go_enter Try.func21, Try.ntmps21
    go_wp2_with fail
    refine (ints_is la1 la2 pl1 pl2 _ _ lc1 lc2 true (by simpa using HP.out) rfl rfl _ S1.out.pl S2.out.pl (by omega) (by omega)).mono ?_
    rintro r w3 ⟨rfl, b3⟩
    have B3 := hide (btr B0.out b3)
    obtain ⟨x0, x1, x2, x3, x4⟩ := sc_cells (heap_below X1.out b3)
    obtain ⟨y0, y1, y2, y3, y4⟩ := sc_cells (heap_below X2.out b3)
    have D1 := hide (S1.out.dr.below b3)
    have D2 := hide (S2.out.dr.below b3)
    clear b3
    go_wp2_with fail
    refine (ints_is da1 da2 dr1 dr2 _ _ dc1 dc2 false (by simpa using HT.out) rfl rfl _ D1.out D2.out (by omega) (by omega)).mono ?_
    rintro r w4 ⟨rfl, b4⟩
    have B4 := hide (btr B3.out b4)
    clear b4
    go_wp2_with fail
    go_ret
    exact ⟨⟨false, rfl, by simp; intro _ _ _ _ e; exact absurd e HT.out⟩, B4.out⟩
  subst hT hM hP hD
  clear S1 S2 X1 X2 B0 hT' hM' hN'
  have := script_loop T1 M1 ps1 ps2 pl1 dr1 pa1 la1 da1 pa2 la2 da2 pc1 lc1 dc1 pc2 lc2 dc2 w hS1 hS2 hN h1 h2.c
  rw [hN] at this
  rw [hN]
  refine this.mono ?_
  rintro r w' ⟨⟨b, h1, h2⟩, h3⟩
  exact ⟨⟨b, h1, by rw [h2]; simp⟩, h3⟩
end Sh
end Go.Proofs.Ytgnhophlnbpcgaa
