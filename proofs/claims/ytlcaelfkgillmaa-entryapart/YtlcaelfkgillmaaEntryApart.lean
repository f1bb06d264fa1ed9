/- For every two events, the law EntryApart returns true, so unlike events have unlike bytes and no one bytes are the beginning of another one: under no condition. -/
import Derived.Test.YtlcaelfkgillmaaNl
import Derived.ShutString
import Derived.ChangeOld
import Derived.Below
namespace Go.Proofs.Ytlcaelfkgillmaa.entryApart
open Go.ChangeShapes Go.WideShapes Go.ChangeAt Go.RowKit
open Go.ChangeMaps (open_string shut_string)
open En Ba Re

theorem own : ownKnob Try.prog.godebug = none := by kernel_rfl
theorem laidOut : laidOutB Try.prog = true := by kernel_rfl

theorem tol (L : List Nat) (t : ByteArray) (x : Bool) (hL : ∀ b ∈ L, b < 256) (h : decide (nbs t = L) = x) : (t.toList == (bs L).toList) = x := by
  rw [BEq.comm]
  exact eq_str L t x hL (by rw [← h]; congr 1; exact propext eq_comm)
set_option maxRecDepth 100000 in
set_option maxHeartbeats 6400000 in
theorem core {w : World} (e1 e2 : Ev) :
    Calls Try.prog 8 #[evv e1, evv e2] w fun r w' => r = .returned (.bool true) ∧ Below w.heap.size w w' := by
  have EQ := hide (evb_iff e1 e2)
  have EE := hide fun u => eqE e1 e2 u
  have AP := hide fun h1 h2 R h => apart (a := e1) (b := e2) h1 h2 R h
  have ENA := hide fun u (h : chk e1 = 0) => encode_ok e1 u h
  have ENB := hide fun u (h : chk e2 = 0) => encode_ok e2 u h
  have NOA := hide fun u (h : (chk e1 != 0) = true) => encode_no e1 u _ rfl h
  have NOB := hide fun u (h : (chk e2 != 0) = true) => encode_no e2 u _ rfl h
  have LTA := hide (show ∀ b ∈ enc e1, b < 256 from pls_lt (nm e1))
  have LTB := hide (show ∀ b ∈ enc e2, b < 256 from pls_lt (nm e2))
  have LNA := hide (enc_len e1)
  have LNB := hide (enc_len e2)
  have SAME : Hid (e1 = e2 → enc e1 = enc e2) := fun h => by rw [h]
  generalize enc e1 = LA at AP ENA LTA LNA SAME
  generalize enc e2 = LB at AP ENB LTB LNB SAME
  generalize chk e1 = z1 at AP ENA NOA
  generalize chk e2 = z2 at AP ENB NOB
  have PP : Hid (evb e1 e2 = true → LA = LB) := fun h => SAME.out (EQ.out.1 h)
  have QQ : Hid (z1 = 0 → z2 = 0 → ∀ R, LB = LA ++ R → evb e1 e2 = true) := fun h1 h2 R h => EQ.out.2 (AP.out h1 h2 R h)
  generalize evb e1 e2 = eb at PP QQ EE
  obtain ⟨k1, g1, c1, a1, v1, m1, s1, o1⟩ := e1
  obtain ⟨k2, g2, c2, a2, v2, m2, s2, o2⟩ := e2
  clear EQ AP SAME
  unfold evv evc at ENA ENB NOA NOB EE ⊢
  simp only at ENA ENB NOA NOB EE ⊢
  have b1 := below_alloc w (.cells #[.int .i64 k1, .int .i64 g1, .int .i64 c1, .int .i64 a1, .int .i64 v1, .int .i64 m1, .bool s1, .bool o1] 23)
  have b2 := below_alloc (w.alloc (.cells #[.int .i64 k1, .int .i64 g1, .int .i64 c1, .int .i64 a1, .int .i64 v1, .int .i64 m1, .bool s1, .bool o1] 23)) (.cells #[.int .i64 k2, .int .i64 g2, .int .i64 c2, .int .i64 a2, .int .i64 v2, .int .i64 m2, .bool s2, .bool o2] 23)
  have HPA := hide (heap_below (heap_new w (.cells #[.int .i64 k1, .int .i64 g1, .int .i64 c1, .int .i64 a1, .int .i64 v1, .int .i64 m1, .bool s1, .bool o1] 23)) b2)
  have HPB := hide (heap_new2 w (.cells #[.int .i64 k1, .int .i64 g1, .int .i64 c1, .int .i64 a1, .int .i64 v1, .int .i64 m1, .bool s1, .bool o1] 23) (.cells #[.int .i64 k2, .int .i64 g2, .int .i64 c2, .int .i64 a2, .int .i64 v2, .int .i64 m2, .bool s2, .bool o2] 23))
  have B0 := hide (btr b1 b2)
  clear b1 b2
  have sA := bs_size LA
  have sB := bs_size LB
  cases d1 : (z1 != 0)
  · have h1 : z1 = 0 := by simpa using d1
    subst h1
    cases d2 : (z2 != 0)
    · have h2 : z2 = 0 := by simpa using d2
      subst h2
      have EA := hide fun u => ENA.out u rfl
      have EB := hide fun u => ENB.out u rfl
      have Q2 := hide (QQ.out rfl rfl)
      clear ENA ENB NOA NOB d1 d2 QQ
      have lna := LNA.out
      have lnb := LNB.out
      cases eb
      · have ns : ((bs LA).toList == (bs LB).toList) = false := by
          refine eq_str LA (bs LB) false LTA.out ?_
          rw [nbs_bs _ LTB.out]
          simp
          intro e
          have := Q2.out [] (by rw [e, List.append_nil])
          cases this
        by_cases hle : LA.length ≤ LB.length
        · have hle' : decide ((LA.length : Int) ≤ (LB.length : Int)) = true := by simp; omega
          have es : (((bs LB).extract 0 LA.length).toList == (bs LA).toList) = false := by
            refine tol LA _ false LTA.out ?_
            rw [nbs_extract, nbs_bs _ LTB.out]
            simp
            intro e
            have := Q2.out (LB.drop LA.length) (by
              have := List.take_append_drop LA.length LB
              rw [e] at this
              exact this.symm)
            cases this
          clear Q2 PP
          go_enter Try.func8, Try.ntmps8
          go_wp2_with fail
          generalize (w.alloc (.cells #[.int .i64 k1, .int .i64 g1, .int .i64 c1, .int .i64 a1, .int .i64 v1, .int .i64 m1, .bool s1, .bool o1] 23)).alloc (.cells #[.int .i64 k2, .int .i64 g2, .int .i64 c2, .int .i64 a2, .int .i64 v2, .int .i64 m2, .bool s2, .bool o2] 23) = W at HPA HPB B0 ⊢
          generalize w.heap.size = N at HPA HPB ⊢
          refine (EA.out _).mono ?_
          rintro r w1 ⟨rfl, e1⟩
          have PA1 := hide (heap_below HPA.out e1)
          have PB1 := hide (heap_below HPB.out e1)
          have B1 := hide (btr B0.out e1)
          clear e1 HPA HPB B0
          have y0 : w1.cell? ⟨N + 1, 0, none⟩ = some (.int .i64 k2) := cell_of PB1.out 0
          have y1 : w1.cell? ⟨N + 1, 1, none⟩ = some (.int .i64 g2) := cell_of PB1.out 1
          have y2 : w1.cell? ⟨N + 1, 2, none⟩ = some (.int .i64 c2) := cell_of PB1.out 2
          have y3 : w1.cell? ⟨N + 1, 3, none⟩ = some (.int .i64 a2) := cell_of PB1.out 3
          have y4 : w1.cell? ⟨N + 1, 4, none⟩ = some (.int .i64 v2) := cell_of PB1.out 4
          have y5 : w1.cell? ⟨N + 1, 5, none⟩ = some (.int .i64 m2) := cell_of PB1.out 5
          have y6 : w1.cell? ⟨N + 1, 6, none⟩ = some (.bool s2) := cell_of PB1.out 6
          have y7 : w1.cell? ⟨N + 1, 7, none⟩ = some (.bool o2) := cell_of PB1.out 7
          go_wp2_with fail
          refine (EB.out _).mono ?_
          rintro r w2 ⟨rfl, e2⟩
          have B2 := hide (btr B1.out e2)
          have PA2 := hide (heap_below PA1.out e2)
          have PB2 := hide (heap_below PB1.out e2)
          clear e2 B1 PA1 PB1 y0 y1 y2 y3 y4 y5 y6 y7
          have x0 : w2.cell? ⟨N, 0, none⟩ = some (.int .i64 k1) := cell_of PA2.out 0
          have x1 : w2.cell? ⟨N, 1, none⟩ = some (.int .i64 g1) := cell_of PA2.out 1
          have x2 : w2.cell? ⟨N, 2, none⟩ = some (.int .i64 c1) := cell_of PA2.out 2
          have x3 : w2.cell? ⟨N, 3, none⟩ = some (.int .i64 a1) := cell_of PA2.out 3
          have x4 : w2.cell? ⟨N, 4, none⟩ = some (.int .i64 v1) := cell_of PA2.out 4
          have x5 : w2.cell? ⟨N, 5, none⟩ = some (.int .i64 m1) := cell_of PA2.out 5
          have x6 : w2.cell? ⟨N, 6, none⟩ = some (.bool s1) := cell_of PA2.out 6
          have x7 : w2.cell? ⟨N, 7, none⟩ = some (.bool o1) := cell_of PA2.out 7
          have y0 : w2.cell? ⟨N + 1, 0, none⟩ = some (.int .i64 k2) := cell_of PB2.out 0
          have y1 : w2.cell? ⟨N + 1, 1, none⟩ = some (.int .i64 g2) := cell_of PB2.out 1
          have y2 : w2.cell? ⟨N + 1, 2, none⟩ = some (.int .i64 c2) := cell_of PB2.out 2
          have y3 : w2.cell? ⟨N + 1, 3, none⟩ = some (.int .i64 a2) := cell_of PB2.out 3
          have y4 : w2.cell? ⟨N + 1, 4, none⟩ = some (.int .i64 v2) := cell_of PB2.out 4
          have y5 : w2.cell? ⟨N + 1, 5, none⟩ = some (.int .i64 m2) := cell_of PB2.out 5
          have y6 : w2.cell? ⟨N + 1, 6, none⟩ = some (.bool s2) := cell_of PB2.out 6
          have y7 : w2.cell? ⟨N + 1, 7, none⟩ = some (.bool o2) := cell_of PB2.out 7
          have ee := EE.out
          go_wp2_with fail
          refine (exit_any _).mono ?_
          rintro r w9 ⟨rfl, b9⟩
          have B9 := hide (btr B2.out b9)
          clear b9
          go_wp2_with fail
          go_ret
          exact ⟨rfl, B9.out⟩
        · have hle' : decide ((LA.length : Int) ≤ (LB.length : Int)) = false := by simp; omega
          clear Q2 PP
          go_enter Try.func8, Try.ntmps8
          go_wp2_with fail
          generalize (w.alloc (.cells #[.int .i64 k1, .int .i64 g1, .int .i64 c1, .int .i64 a1, .int .i64 v1, .int .i64 m1, .bool s1, .bool o1] 23)).alloc (.cells #[.int .i64 k2, .int .i64 g2, .int .i64 c2, .int .i64 a2, .int .i64 v2, .int .i64 m2, .bool s2, .bool o2] 23) = W at HPA HPB B0 ⊢
          generalize w.heap.size = N at HPA HPB ⊢
          refine (EA.out _).mono ?_
          rintro r w1 ⟨rfl, e1⟩
          have PA1 := hide (heap_below HPA.out e1)
          have PB1 := hide (heap_below HPB.out e1)
          have B1 := hide (btr B0.out e1)
          clear e1 HPA HPB B0
          have y0 : w1.cell? ⟨N + 1, 0, none⟩ = some (.int .i64 k2) := cell_of PB1.out 0
          have y1 : w1.cell? ⟨N + 1, 1, none⟩ = some (.int .i64 g2) := cell_of PB1.out 1
          have y2 : w1.cell? ⟨N + 1, 2, none⟩ = some (.int .i64 c2) := cell_of PB1.out 2
          have y3 : w1.cell? ⟨N + 1, 3, none⟩ = some (.int .i64 a2) := cell_of PB1.out 3
          have y4 : w1.cell? ⟨N + 1, 4, none⟩ = some (.int .i64 v2) := cell_of PB1.out 4
          have y5 : w1.cell? ⟨N + 1, 5, none⟩ = some (.int .i64 m2) := cell_of PB1.out 5
          have y6 : w1.cell? ⟨N + 1, 6, none⟩ = some (.bool s2) := cell_of PB1.out 6
          have y7 : w1.cell? ⟨N + 1, 7, none⟩ = some (.bool o2) := cell_of PB1.out 7
          go_wp2_with fail
          refine (EB.out _).mono ?_
          rintro r w2 ⟨rfl, e2⟩
          have B2 := hide (btr B1.out e2)
          have PA2 := hide (heap_below PA1.out e2)
          have PB2 := hide (heap_below PB1.out e2)
          clear e2 B1 PA1 PB1 y0 y1 y2 y3 y4 y5 y6 y7
          have x0 : w2.cell? ⟨N, 0, none⟩ = some (.int .i64 k1) := cell_of PA2.out 0
          have x1 : w2.cell? ⟨N, 1, none⟩ = some (.int .i64 g1) := cell_of PA2.out 1
          have x2 : w2.cell? ⟨N, 2, none⟩ = some (.int .i64 c1) := cell_of PA2.out 2
          have x3 : w2.cell? ⟨N, 3, none⟩ = some (.int .i64 a1) := cell_of PA2.out 3
          have x4 : w2.cell? ⟨N, 4, none⟩ = some (.int .i64 v1) := cell_of PA2.out 4
          have x5 : w2.cell? ⟨N, 5, none⟩ = some (.int .i64 m1) := cell_of PA2.out 5
          have x6 : w2.cell? ⟨N, 6, none⟩ = some (.bool s1) := cell_of PA2.out 6
          have x7 : w2.cell? ⟨N, 7, none⟩ = some (.bool o1) := cell_of PA2.out 7
          have y0 : w2.cell? ⟨N + 1, 0, none⟩ = some (.int .i64 k2) := cell_of PB2.out 0
          have y1 : w2.cell? ⟨N + 1, 1, none⟩ = some (.int .i64 g2) := cell_of PB2.out 1
          have y2 : w2.cell? ⟨N + 1, 2, none⟩ = some (.int .i64 c2) := cell_of PB2.out 2
          have y3 : w2.cell? ⟨N + 1, 3, none⟩ = some (.int .i64 a2) := cell_of PB2.out 3
          have y4 : w2.cell? ⟨N + 1, 4, none⟩ = some (.int .i64 v2) := cell_of PB2.out 4
          have y5 : w2.cell? ⟨N + 1, 5, none⟩ = some (.int .i64 m2) := cell_of PB2.out 5
          have y6 : w2.cell? ⟨N + 1, 6, none⟩ = some (.bool s2) := cell_of PB2.out 6
          have y7 : w2.cell? ⟨N + 1, 7, none⟩ = some (.bool o2) := cell_of PB2.out 7
          have ee := EE.out
          go_wp2_with fail
          refine (exit_any _).mono ?_
          rintro r w9 ⟨rfl, b9⟩
          have B9 := hide (btr B2.out b9)
          clear b9
          go_wp2_with fail
          go_ret
          exact ⟨rfl, B9.out⟩
      · have QE := PP.out rfl
        subst QE
        have t1 : ((bs LA).extract 0 LA.length).toList = (bs LA).toList := by
          have e : (bs LA).extract 0 LA.length = bs LA := nbs_inj (by rw [nbs_extract, nbs_bs _ LTA.out, List.take_length]; rfl)
          rw [e]
        clear Q2 PP
        go_enter Try.func8, Try.ntmps8
        go_wp2_with fail
        generalize (w.alloc (.cells #[.int .i64 k1, .int .i64 g1, .int .i64 c1, .int .i64 a1, .int .i64 v1, .int .i64 m1, .bool s1, .bool o1] 23)).alloc (.cells #[.int .i64 k2, .int .i64 g2, .int .i64 c2, .int .i64 a2, .int .i64 v2, .int .i64 m2, .bool s2, .bool o2] 23) = W at HPA HPB B0 ⊢
        generalize w.heap.size = N at HPA HPB ⊢
        refine (EA.out _).mono ?_
        rintro r w1 ⟨rfl, e1⟩
        have PA1 := hide (heap_below HPA.out e1)
        have PB1 := hide (heap_below HPB.out e1)
        have B1 := hide (btr B0.out e1)
        clear e1 HPA HPB B0
        have y0 : w1.cell? ⟨N + 1, 0, none⟩ = some (.int .i64 k2) := cell_of PB1.out 0
        have y1 : w1.cell? ⟨N + 1, 1, none⟩ = some (.int .i64 g2) := cell_of PB1.out 1
        have y2 : w1.cell? ⟨N + 1, 2, none⟩ = some (.int .i64 c2) := cell_of PB1.out 2
        have y3 : w1.cell? ⟨N + 1, 3, none⟩ = some (.int .i64 a2) := cell_of PB1.out 3
        have y4 : w1.cell? ⟨N + 1, 4, none⟩ = some (.int .i64 v2) := cell_of PB1.out 4
        have y5 : w1.cell? ⟨N + 1, 5, none⟩ = some (.int .i64 m2) := cell_of PB1.out 5
        have y6 : w1.cell? ⟨N + 1, 6, none⟩ = some (.bool s2) := cell_of PB1.out 6
        have y7 : w1.cell? ⟨N + 1, 7, none⟩ = some (.bool o2) := cell_of PB1.out 7
        go_wp2_with fail
        refine (EB.out _).mono ?_
        rintro r w2 ⟨rfl, e2⟩
        have B2 := hide (btr B1.out e2)
        have PA2 := hide (heap_below PA1.out e2)
        have PB2 := hide (heap_below PB1.out e2)
        clear e2 B1 PA1 PB1 y0 y1 y2 y3 y4 y5 y6 y7
        have x0 : w2.cell? ⟨N, 0, none⟩ = some (.int .i64 k1) := cell_of PA2.out 0
        have x1 : w2.cell? ⟨N, 1, none⟩ = some (.int .i64 g1) := cell_of PA2.out 1
        have x2 : w2.cell? ⟨N, 2, none⟩ = some (.int .i64 c1) := cell_of PA2.out 2
        have x3 : w2.cell? ⟨N, 3, none⟩ = some (.int .i64 a1) := cell_of PA2.out 3
        have x4 : w2.cell? ⟨N, 4, none⟩ = some (.int .i64 v1) := cell_of PA2.out 4
        have x5 : w2.cell? ⟨N, 5, none⟩ = some (.int .i64 m1) := cell_of PA2.out 5
        have x6 : w2.cell? ⟨N, 6, none⟩ = some (.bool s1) := cell_of PA2.out 6
        have x7 : w2.cell? ⟨N, 7, none⟩ = some (.bool o1) := cell_of PA2.out 7
        have y0 : w2.cell? ⟨N + 1, 0, none⟩ = some (.int .i64 k2) := cell_of PB2.out 0
        have y1 : w2.cell? ⟨N + 1, 1, none⟩ = some (.int .i64 g2) := cell_of PB2.out 1
        have y2 : w2.cell? ⟨N + 1, 2, none⟩ = some (.int .i64 c2) := cell_of PB2.out 2
        have y3 : w2.cell? ⟨N + 1, 3, none⟩ = some (.int .i64 a2) := cell_of PB2.out 3
        have y4 : w2.cell? ⟨N + 1, 4, none⟩ = some (.int .i64 v2) := cell_of PB2.out 4
        have y5 : w2.cell? ⟨N + 1, 5, none⟩ = some (.int .i64 m2) := cell_of PB2.out 5
        have y6 : w2.cell? ⟨N + 1, 6, none⟩ = some (.bool s2) := cell_of PB2.out 6
        have y7 : w2.cell? ⟨N + 1, 7, none⟩ = some (.bool o2) := cell_of PB2.out 7
        have ee := EE.out
        go_wp2_with fail
        refine (exit_any _).mono ?_
        rintro r w9 ⟨rfl, b9⟩
        have B9 := hide (btr B2.out b9)
        clear b9
        go_wp2_with fail
        go_ret
        exact ⟨rfl, B9.out⟩
    · have EA := hide fun u => ENA.out u rfl
      have EB := hide fun u => NOB.out u d2
      clear ENA ENB NOA NOB d1 QQ PP
      go_enter Try.func8, Try.ntmps8
      go_wp2_with fail
      generalize (w.alloc (.cells #[.int .i64 k1, .int .i64 g1, .int .i64 c1, .int .i64 a1, .int .i64 v1, .int .i64 m1, .bool s1, .bool o1] 23)).alloc (.cells #[.int .i64 k2, .int .i64 g2, .int .i64 c2, .int .i64 a2, .int .i64 v2, .int .i64 m2, .bool s2, .bool o2] 23) = W at HPA HPB B0 ⊢
      generalize w.heap.size = N at HPA HPB ⊢
      refine (EA.out _).mono ?_
      rintro r w1 ⟨rfl, e1⟩
      have PA1 := hide (heap_below HPA.out e1)
      have PB1 := hide (heap_below HPB.out e1)
      have B1 := hide (btr B0.out e1)
      clear e1 HPA HPB B0
      have y0 : w1.cell? ⟨N + 1, 0, none⟩ = some (.int .i64 k2) := cell_of PB1.out 0
      have y1 : w1.cell? ⟨N + 1, 1, none⟩ = some (.int .i64 g2) := cell_of PB1.out 1
      have y2 : w1.cell? ⟨N + 1, 2, none⟩ = some (.int .i64 c2) := cell_of PB1.out 2
      have y3 : w1.cell? ⟨N + 1, 3, none⟩ = some (.int .i64 a2) := cell_of PB1.out 3
      have y4 : w1.cell? ⟨N + 1, 4, none⟩ = some (.int .i64 v2) := cell_of PB1.out 4
      have y5 : w1.cell? ⟨N + 1, 5, none⟩ = some (.int .i64 m2) := cell_of PB1.out 5
      have y6 : w1.cell? ⟨N + 1, 6, none⟩ = some (.bool s2) := cell_of PB1.out 6
      have y7 : w1.cell? ⟨N + 1, 7, none⟩ = some (.bool o2) := cell_of PB1.out 7
      go_wp2_with fail
      refine (EB.out _).mono ?_
      rintro r w2 ⟨rfl, e2⟩
      have B2 := hide (btr B1.out e2)
      have PA2 := hide (heap_below PA1.out e2)
      have PB2 := hide (heap_below PB1.out e2)
      clear e2 B1 PA1 PB1 y0 y1 y2 y3 y4 y5 y6 y7
      go_wp2_with fail
      refine (exit_any _).mono ?_
      rintro r w9 ⟨rfl, b9⟩
      have B9 := hide (btr B2.out b9)
      clear b9
      go_wp2_with fail
      go_ret
      exact ⟨rfl, B9.out⟩
  · have EA := hide fun u => NOA.out u d1
    cases d2 : (z2 != 0)
    · have h2 : z2 = 0 := by simpa using d2
      subst h2
      have EB := hide fun u => ENB.out u rfl
      clear ENA ENB NOA NOB d2 QQ PP
      go_enter Try.func8, Try.ntmps8
      go_wp2_with fail
      generalize (w.alloc (.cells #[.int .i64 k1, .int .i64 g1, .int .i64 c1, .int .i64 a1, .int .i64 v1, .int .i64 m1, .bool s1, .bool o1] 23)).alloc (.cells #[.int .i64 k2, .int .i64 g2, .int .i64 c2, .int .i64 a2, .int .i64 v2, .int .i64 m2, .bool s2, .bool o2] 23) = W at HPA HPB B0 ⊢
      generalize w.heap.size = N at HPA HPB ⊢
      refine (EA.out _).mono ?_
      rintro r w1 ⟨rfl, e1⟩
      have PA1 := hide (heap_below HPA.out e1)
      have PB1 := hide (heap_below HPB.out e1)
      have B1 := hide (btr B0.out e1)
      clear e1 HPA HPB B0
      have y0 : w1.cell? ⟨N + 1, 0, none⟩ = some (.int .i64 k2) := cell_of PB1.out 0
      have y1 : w1.cell? ⟨N + 1, 1, none⟩ = some (.int .i64 g2) := cell_of PB1.out 1
      have y2 : w1.cell? ⟨N + 1, 2, none⟩ = some (.int .i64 c2) := cell_of PB1.out 2
      have y3 : w1.cell? ⟨N + 1, 3, none⟩ = some (.int .i64 a2) := cell_of PB1.out 3
      have y4 : w1.cell? ⟨N + 1, 4, none⟩ = some (.int .i64 v2) := cell_of PB1.out 4
      have y5 : w1.cell? ⟨N + 1, 5, none⟩ = some (.int .i64 m2) := cell_of PB1.out 5
      have y6 : w1.cell? ⟨N + 1, 6, none⟩ = some (.bool s2) := cell_of PB1.out 6
      have y7 : w1.cell? ⟨N + 1, 7, none⟩ = some (.bool o2) := cell_of PB1.out 7
      go_wp2_with fail
      refine (EB.out _).mono ?_
      rintro r w2 ⟨rfl, e2⟩
      have B2 := hide (btr B1.out e2)
      have PA2 := hide (heap_below PA1.out e2)
      have PB2 := hide (heap_below PB1.out e2)
      clear e2 B1 PA1 PB1 y0 y1 y2 y3 y4 y5 y6 y7
      go_wp2_with fail
      refine (exit_any _).mono ?_
      rintro r w9 ⟨rfl, b9⟩
      have B9 := hide (btr B2.out b9)
      clear b9
      go_wp2_with fail
      go_ret
      exact ⟨rfl, B9.out⟩
    · have EB := hide fun u => NOB.out u d2
      clear ENA ENB NOA NOB QQ PP
      go_enter Try.func8, Try.ntmps8
      go_wp2_with fail
      generalize (w.alloc (.cells #[.int .i64 k1, .int .i64 g1, .int .i64 c1, .int .i64 a1, .int .i64 v1, .int .i64 m1, .bool s1, .bool o1] 23)).alloc (.cells #[.int .i64 k2, .int .i64 g2, .int .i64 c2, .int .i64 a2, .int .i64 v2, .int .i64 m2, .bool s2, .bool o2] 23) = W at HPA HPB B0 ⊢
      generalize w.heap.size = N at HPA HPB ⊢
      refine (EA.out _).mono ?_
      rintro r w1 ⟨rfl, e1⟩
      have PA1 := hide (heap_below HPA.out e1)
      have PB1 := hide (heap_below HPB.out e1)
      have B1 := hide (btr B0.out e1)
      clear e1 HPA HPB B0
      have y0 : w1.cell? ⟨N + 1, 0, none⟩ = some (.int .i64 k2) := cell_of PB1.out 0
      have y1 : w1.cell? ⟨N + 1, 1, none⟩ = some (.int .i64 g2) := cell_of PB1.out 1
      have y2 : w1.cell? ⟨N + 1, 2, none⟩ = some (.int .i64 c2) := cell_of PB1.out 2
      have y3 : w1.cell? ⟨N + 1, 3, none⟩ = some (.int .i64 a2) := cell_of PB1.out 3
      have y4 : w1.cell? ⟨N + 1, 4, none⟩ = some (.int .i64 v2) := cell_of PB1.out 4
      have y5 : w1.cell? ⟨N + 1, 5, none⟩ = some (.int .i64 m2) := cell_of PB1.out 5
      have y6 : w1.cell? ⟨N + 1, 6, none⟩ = some (.bool s2) := cell_of PB1.out 6
      have y7 : w1.cell? ⟨N + 1, 7, none⟩ = some (.bool o2) := cell_of PB1.out 7
      go_wp2_with fail
      refine (EB.out _).mono ?_
      rintro r w2 ⟨rfl, e2⟩
      have B2 := hide (btr B1.out e2)
      have PA2 := hide (heap_below PA1.out e2)
      have PB2 := hide (heap_below PB1.out e2)
      clear e2 B1 PA1 PB1 y0 y1 y2 y3 y4 y5 y6 y7
      go_wp2_with fail
      refine (exit_any _).mono ?_
      rintro r w9 ⟨rfl, b9⟩
      have B9 := hide (btr B2.out b9)
      clear b9
      go_wp2_with fail
      go_ret
      exact ⟨rfl, B9.out⟩

/-! ### the row -/
set_option maxRecDepth 100000 in
theorem lifted (os : Os) (started : os.Started) (H : Type) (enc : TypeId × Value → H) :
    ReturnsInHanded {} Try.checked os 8 .any (Rows.entryApartSpec.pre6 enc Try.prog Try.f8 Rows.entryApartRow.domain false) (Rows.entryApartSpec.post enc Try.prog Try.f8 false true false false) := by
  refine returnsInHanded_of_change (C := Try.checked) own started (by kernel_rfl) Try.func8
    (ChangeSpec.witness6 (enc := enc) (C := Try.checked) false ⟨#[], #[.agg #[.int .i64 0, .int .i64 0, .int .i64 0, .int .i64 0, .int .i64 0, .int .i64 0, .bool false, .bool false], .agg #[.int .i64 0, .int .i64 0, .int .i64 0, .int .i64 0, .int .i64 0, .int .i64 0, .bool false, .bool false]], []⟩ 8 (by kernel_rfl) (by kernel_rfl) (by kernel_rfl) (by kernel_rfl)) ?_
  intro W base args ds gs before hval0 hW hcnd _
  have hval : ∀ (j : Nat) t v, Try.f8.params[j]? = some t → args[j]? = some v → Value.okWide Try.prog W .any base t v := hval0
  have hW' := hW
  obtain ⟨p, q, hA0, hV, rfl, hfz, hnd⟩ := hW
  have hA : DataW.TrodAll enc Try.prog W 0 (fun _ => true) true Try.f8.params.toList args.toList ds p := hA0
  rw [Try.params8] at hA hval
  obtain ⟨v0, vs0, d0, ds0, p0, q0, hargs, rfl, rfl, h0, r0⟩ := trodAll_cons hA
  obtain ⟨v1, vs1, d1, ds1, p1, q1, rfl, rfl, rfl, h1, r1⟩ := trodAll_cons r0
  obtain ⟨rfl, rfl, rfl⟩ := trodAll_nil r1
  obtain rfl : args = #[v0, v1] := by cases args; simp_all
  obtain ⟨rfl, rfl⟩ := trodVars_none hV
  have k0 := h0
  have lt0 : ∀ x ∈ p0, x.block < W.heap.size := by obtain ⟨m, hm⟩ := k0; exact DataW.trod_lt m _ _ _ hm
  obtain ⟨x0, rfl⟩ := h0.elim fun _ hf => ev_open hf
  have k1 := h1
  have lt1 : ∀ x ∈ p1, x.block < W.heap.size := by obtain ⟨m, hm⟩ := k1; exact DataW.trod_lt m _ _ _ hm
  obtain ⟨x1, rfl⟩ := h1.elim fun _ hf => ev_open hf
  clear hA0 hval0
  refine (core (w := W) x0 x1).mono fun e W' ⟨he, bel⟩ => ?_
  subst he
  exact ⟨_, rfl, _, _, _, [], _, [], hW', trodAll_mk1 (shut_bool Try.underlying4 _), (trodAll_cons_mk (Below.trod laidOut (by kernel_rfl) (of_decide_eq_true (by kernel_rfl)) k0 bel lt0) (trodAll_cons_mk (Below.trod laidOut (by kernel_rfl) (of_decide_eq_true (by kernel_rfl)) k1 bel lt1) trodAll_mk0)), rfl, bel.frame _, fun h => by cases h⟩

theorem over : Rows.entryApartRow.holds Try.pinned (OpenSpec.ofChange Rows.entryApartSpec) :=
  OpenClaim.holds_of_wide 8 Try.f8 rfl rfl rfl rfl rfl rfl rfl ⟨rfl, rfl, rfl, rfl, rfl⟩ rfl rfl rfl rfl rfl (by kernel_rfl) Try.func8 (by kernel_rfl)
    (of_decide_eq_true (by kernel_rfl)) (by unfold Func.isWrapper; first | (rw [if_pos (by decide +kernel)]; kernel_rfl) | (rw [if_neg (by decide +kernel)]; exact ⟨rfl, rfl⟩))
    (fun os started H enc _ => lifted os started H enc)

/-- the statement -/
theorem proved : Rows.EntryApartSaid := over
#print axioms proved
end Go.Proofs.Ytlcaelfkgillmaa.entryApart
