/- The reference's log, over this seat's program: Known. -/
import Derived.Test.YtgfnafipfbajcaaUq8
namespace Go.Proofs.Ytgfnafipfbajcaa
open Go.ChangeShapes Go.WideShapes Go.ChangeAt Go.RowKit
namespace Qu
open Ba Rk

set_option maxRecDepth 100000 in
set_option maxHeartbeats 1600000 in
theorem rkno_arg (oe os od : Option Addr) (le ce ls cs ld cd : Nat) (b g : Int) (w : World) (h : hsE le ls b = false) :
    Calls Try.prog 12 #[.agg #[.slice oe le ce, .slice os ls cs, .slice od ld cd], .int .i64 b, .int .i64 g] w fun r w' => r = .returned (.tuple #[.int .i64 0, .int .i64 1]) ∧ Below w.heap.size w w' := by
  unfold hsE at h
  have BL := hide (below_alloc w (.cells #[.slice oe le ce, .slice os ls cs, .slice od ld cd] 37))
  cases h1 : ((ls : Int) == (le : Int))
  · have h1' : ((ls : Int) != (le : Int)) = true := by simp [bne, h1]
    have h2 : (ls != le) = true := by simp at h1' ⊢; omega
    clear h h1
    go_enter Try.func12, Try.ntmps12
    go_wp2_with fail
    go_ret2
    exact ⟨rfl, BL.out⟩
  · have e : ls = le := by simp at h1; omega
    subst e
    clear h1
    by_cases h2 : b < 0
    · clear h
      go_enter Try.func12, Try.ntmps12
      go_wp2_with fail
      go_ret2
      exact ⟨rfl, BL.out⟩
    · have h3 : (ls : Int) ≤ b := by simp at h; omega
      clear h
      go_enter Try.func12, Try.ntmps12
      go_wp2_with fail
      go_ret2
      exact ⟨rfl, BL.out⟩
def rknV (rs : List Rd) (b : Int) (z : Ex) (u : Tx) (g : Int) : Int := if rask rs z u then (match fd rs g with | some r => kw r b u.c | none => 0) else 0
def rknE (rs : List Rd) (z : Ex) (u : Tx) (g : Int) : Int := if rask rs z u && (fd rs g).isSome then 0 else 6
set_option maxRecDepth 100000 in
set_option maxHeartbeats 6400000 in
theorem rkno_in (oe os od : Option Addr) (ce cs cd : Nat) (es : List Ex) (ts : List Tx) (rs : List Rd) (b : Nat) (g : Int) (z : Ex) (u : Tx) (w : World) (h : RG w oe os od es ts rs) (hn : ts.length = es.length) (hxb : es[b]? = some z) (hyb : ts[b]? = some u) (hl : rs.length ≤ 100000) :
    Calls Try.prog 12 #[.agg #[.slice oe es.length ce, .slice os ts.length cs, .slice od rs.length cd], .int .i64 (b : Int), .int .i64 g] w fun r w' => r = .returned (.tuple #[.int .i64 (rknV rs (b : Int) z u g), .int .i64 (rknE rs z u g)]) ∧ Below w.heap.size w w' := by
  have hlb := (List.getElem?_eq_some_iff.1 hxb).1
  have KB := hide fun v (hv : RG v oe os od es ts rs) => rasked_any oe os od ce cs cd es ts rs b z u v hv hxb hyb hl
  have OF := hide fun v (hv : RG v oe os od es ts rs) => rof_any oe os od es.length ce ts.length cs cd rs g v hv.rc hl
  rw [hn] at KB OF ⊢
  unfold rknV rknE
  generalize rask rs z u = q at KB ⊢
  have hoi := oi_fd rs g
  generalize oi rs g = O at OF hoi
  have HY := hide hyb
  have HLD := hide (rfl : rs.length = rs.length)
  obtain ⟨le, hle⟩ : ∃ le, es.length = le := ⟨_, rfl⟩
  obtain ⟨ld, hld⟩ : ∃ ld, rs.length = ld := ⟨_, rfl⟩
  rw [hle] at KB OF hlb ⊢
  rw [hld] at KB OF hoi ⊢
  have hlb1 : (b : Int) < (le : Int) := by omega
  have hlb2 : decide ((le : Int) ≤ (b : Int)) = false := decide_eq_false (by omega)
  have hlb3 : decide (le ≤ b) = false := decide_eq_false (by omega)
  have b0 := below_alloc w (.cells #[.slice oe le ce, .slice os le cs, .slice od ld cd] 37)
  have L0 := hide (h.below b0)
  have B0 := hide b0
  have HN := hide (heap_new w (.cells #[.slice oe le ce, .slice os le cs, .slice od ld cd] 37))
  clear h hn hxb hyb hle hld hl b0 HLD
  rcases hoi with ⟨e1, e2⟩ | ⟨k, X, e1, e2, e3, e4⟩
  · rw [e1]
    subst e2
    simp only [Option.isSome_none, Bool.and_false, Bool.false_eq_true, if_false, ite_self]
    go_enter Try.func12, Try.ntmps12
    go_wp2_with fail
    generalize w.alloc (.cells #[.slice oe le ce, .slice os le cs, .slice od ld cd] 37) = W at *
    refine (OF.out _ L0.out).mono ?_
    rintro r w1 ⟨rfl, b1⟩
    have B1 := hide (btr B0.out b1)
    clear b1
    go_wp2_with fail
    go_ret2
    exact ⟨rfl, B1.out⟩
  · rw [e1]
    subst e2
    have hk0 : decide ((k : Int) < 0) = false := decide_eq_false (by omega)
    have hk1 : (k : Int) < (ld : Int) := by omega
    simp only [Option.isSome_some, Bool.and_true]
    have HX := hide e3
    clear e1 e3
    cases q
    · simp only [Bool.false_eq_true, if_false]
      go_enter Try.func12, Try.ntmps12
      go_wp2_with fail
      generalize w.alloc (.cells #[.slice oe le ce, .slice os le cs, .slice od ld cd] 37) = W at *
      refine (OF.out _ L0.out).mono ?_
      rintro r w1 ⟨rfl, b1⟩
      have N1 := hide (heap_below HN.out b1)
      have x0 : w1.cell? ⟨w.heap.size, 0, none⟩ = some (.slice oe le ce) := cell_of N1.out 0
      have x1 : w1.cell? ⟨w.heap.size, 1, none⟩ = some (.slice os le cs) := cell_of N1.out 1
      have x2 : w1.cell? ⟨w.heap.size, 2, none⟩ = some (.slice od ld cd) := cell_of N1.out 2
      have B1 := hide (btr B0.out b1)
      have L1 := hide (L0.out.below b1)
      clear b1
      go_wp2_with fail
      refine (KB.out _ L1.out).mono ?_
      rintro r w2 ⟨rfl, b2⟩
      have B2 := hide (btr B1.out b2)
      clear b2
      go_wp2_with fail
      go_ret2
      exact ⟨rfl, B2.out⟩
    · simp only [if_true]
      obtain ⟨kx, hkx⟩ : ∃ kx, kw X (b : Int) u.c = kx := ⟨_, rfl⟩
      rw [hkx]
      have HK := hide hkx
      clear hkx
      unfold kw at HK
      obtain ⟨Xg, Xt, Xf, Xb, Xl, Xc⟩ := X
      simp only at *
      go_enter Try.func12, Try.ntmps12
      go_wp2_with fail
      generalize w.alloc (.cells #[.slice oe le ce, .slice os le cs, .slice od ld cd] 37) = W at *
      refine (OF.out _ L0.out).mono ?_
      rintro r w1 ⟨rfl, b1⟩
      have N1 := hide (heap_below HN.out b1)
      have x0 : w1.cell? ⟨w.heap.size, 0, none⟩ = some (.slice oe le ce) := cell_of N1.out 0
      have x1 : w1.cell? ⟨w.heap.size, 1, none⟩ = some (.slice os le cs) := cell_of N1.out 1
      have x2 : w1.cell? ⟨w.heap.size, 2, none⟩ = some (.slice od ld cd) := cell_of N1.out 2
      have B1 := hide (btr B0.out b1)
      have L1 := hide (L0.out.below b1)
      clear b1
      go_wp2_with fail
      refine (KB.out _ L1.out).mono ?_
      rintro r w2 ⟨rfl, b2⟩
      have N2 := hide (heap_below N1.out b2)
      have B2 := hide (btr B1.out b2)
      have L2 := hide (L1.out.below b2)
      have hN2 := heap_lt N2.out
      clear b2 x0 x1 x2
      have x1 : w2.cell? ⟨w.heap.size, 1, none⟩ = some (.slice os le cs) := cell_of N2.out 1
      have x2 : w2.cell? ⟨w.heap.size, 2, none⟩ = some (.slice od ld cd) := cell_of N2.out 2
      obtain ⟨rb, ro, er, r0, r1, r2, r3, r4, r5⟩ := L2.out.rc.read HX.out
      subst er
      simp only at r0 r1 r2 r3 r4 r5
      have B3 := hide (btr B2.out (below_alloc w2 (.cells #[.int .i64 Xg, .int .i64 Xt, .int .i64 Xf, .bool Xb, .int .i64 Xl, .int .i64 Xc] 73)))
      have hrb : rb < w2.heap.size := World.block_lt_of_cell? w2 _ r0
      cases Xb
      · have HK2 : Hid (kx = if (b : Int) ≤ Xf then 0 else nm u.c Xt) := HK.out.symm.trans (by rw [if_neg (by simp)])
        clear HK
        have X3 := hide (heap_new w2 (.cells #[.int .i64 Xg, .int .i64 Xt, .int .i64 Xf, .bool false, .int .i64 Xl, .int .i64 Xc] 73))
        have N3 := hide (heap_below N2.out (below_alloc w2 (.cells #[.int .i64 Xg, .int .i64 Xt, .int .i64 Xf, .bool false, .int .i64 Xl, .int .i64 Xc] 73)))
        have L3 := hide (L2.out.below (below_alloc w2 (.cells #[.int .i64 Xg, .int .i64 Xt, .int .i64 Xf, .bool false, .int .i64 Xl, .int .i64 Xc] 73)))
        obtain ⟨sb, so, es3, -, -, t2, sa⟩ := L3.out.st.read HY.out
        subst es3
        have SAt := hide sa
        clear sa
        by_cases hbf : (b : Int) ≤ Xf
        · obtain rfl : kx = 0 := HK2.out.trans (if_pos hbf)
          go_wp2_with fail
          generalize w2.alloc (.cells #[.int .i64 Xg, .int .i64 Xt, .int .i64 Xf, .bool false, .int .i64 Xl, .int .i64 Xc] 73) = W3 at *
          have q1 : W3.cell? ⟨w2.heap.size, 1, none⟩ = some (.int .i64 Xt) := cell_of X3.out 1
          have q2 : W3.cell? ⟨w2.heap.size, 2, none⟩ = some (.int .i64 Xf) := cell_of X3.out 2
          have q3 : W3.cell? ⟨w2.heap.size, 3, none⟩ = some (.bool false) := cell_of X3.out 3
          have q4 : W3.cell? ⟨w2.heap.size, 4, none⟩ = some (.int .i64 Xl) := cell_of X3.out 4
          go_quiet (fail)
          go_wp2_with fail
          go_ret2
          exact ⟨rfl, btr B3.out (bdrew _ _)⟩
        have hbf' : decide ((b : Int) ≤ Xf) = false := decide_eq_false hbf
        have HK3 : Hid (kx = nm u.c Xt) := HK2.out.trans (if_neg hbf)
        clear HK2 hbf
        unfold nm at HK3
        by_cases ht : Xt < 0
        · obtain rfl : kx = 0 := HK3.out.trans (if_pos (.inl ht))
          go_wp2_with fail
          generalize w2.alloc (.cells #[.int .i64 Xg, .int .i64 Xt, .int .i64 Xf, .bool false, .int .i64 Xl, .int .i64 Xc] 73) = W3 at *
          have q1 : W3.cell? ⟨w2.heap.size, 1, none⟩ = some (.int .i64 Xt) := cell_of X3.out 1
          have q2 : W3.cell? ⟨w2.heap.size, 2, none⟩ = some (.int .i64 Xf) := cell_of X3.out 2
          have q3 : W3.cell? ⟨w2.heap.size, 3, none⟩ = some (.bool false) := cell_of X3.out 3
          have q4 : W3.cell? ⟨w2.heap.size, 4, none⟩ = some (.int .i64 Xl) := cell_of X3.out 4
          go_quiet (fail)
          go_wp2_with fail
          go_ret2
          exact ⟨rfl, btr B3.out (bdrew _ _)⟩
        have ht' : decide (Xt < 0) = false := decide_eq_false ht
        by_cases hc : (u.c.length : Int) ≤ Xt
        · obtain rfl : kx = 0 := HK3.out.trans (if_pos (.inr hc))
          go_wp2_with fail
          generalize w2.alloc (.cells #[.int .i64 Xg, .int .i64 Xt, .int .i64 Xf, .bool false, .int .i64 Xl, .int .i64 Xc] 73) = W3 at *
          have q1 : W3.cell? ⟨w2.heap.size, 1, none⟩ = some (.int .i64 Xt) := cell_of X3.out 1
          have q2 : W3.cell? ⟨w2.heap.size, 2, none⟩ = some (.int .i64 Xf) := cell_of X3.out 2
          have q3 : W3.cell? ⟨w2.heap.size, 3, none⟩ = some (.bool false) := cell_of X3.out 3
          have q4 : W3.cell? ⟨w2.heap.size, 4, none⟩ = some (.int .i64 Xl) := cell_of X3.out 4
          have y1 : W3.cell? ⟨w.heap.size, 1, none⟩ = some (.slice (some ⟨sb, so, none⟩) le cs) := cell_of N3.out 1
          go_quiet (fail)
          go_wp2_with fail
          go_ret2
          exact ⟨rfl, btr B3.out (bdrew _ _)⟩
        have hc' : decide ((u.c.length : Int) ≤ Xt) = false := decide_eq_false hc
        obtain ⟨m, rfl⟩ : ∃ m : Nat, Xt = (m : Int) := ⟨Xt.toNat, by omega⟩
        have hml : m < u.c.length := by omega
        have hml' : (m : Int) < (u.c.length : Int) := by omega
        have hc2 : decide (u.c.length ≤ m) = false := decide_eq_false (by omega)
        obtain rfl : kx = nth u.c m := HK3.out.trans (by rw [if_neg (by omega)]; simp)
        obtain ⟨ub, uo, eu, v0⟩ := SAt.out m hml
        rw [eu] at t2
        clear HK3 ht hc
        go_wp2_with fail
        generalize w2.alloc (.cells #[.int .i64 Xg, .int .i64 (m : Int), .int .i64 Xf, .bool false, .int .i64 Xl, .int .i64 Xc] 73) = W3 at *
        have q1 : W3.cell? ⟨w2.heap.size, 1, none⟩ = some (.int .i64 (m : Int)) := cell_of X3.out 1
        have q2 : W3.cell? ⟨w2.heap.size, 2, none⟩ = some (.int .i64 Xf) := cell_of X3.out 2
        have q3 : W3.cell? ⟨w2.heap.size, 3, none⟩ = some (.bool false) := cell_of X3.out 3
        have q4 : W3.cell? ⟨w2.heap.size, 4, none⟩ = some (.int .i64 Xl) := cell_of X3.out 4
        have y1 : W3.cell? ⟨w.heap.size, 1, none⟩ = some (.slice (some ⟨sb, so, none⟩) le cs) := cell_of N3.out 1
        go_quiet (fail)
        go_wp2_with fail
        go_quiet (fail)
        go_wp2_with fail
        go_ret2
        exact ⟨rfl, btr (btr B3.out (bdrew _ _)) (bdrew _ _)⟩
      · by_cases hxl : Xl < (b : Int)
        · obtain rfl : kx = Xc := HK.out.symm.trans (by rw [if_pos (by simp; omega)])
          go_wp2_with fail
          go_ret2
          exact ⟨rfl, B3.out⟩
        have e3 : decide (Xl < (b : Int)) = false := decide_eq_false hxl
        have HK2 : Hid (kx = if (b : Int) ≤ Xf then 0 else nm u.c Xt) := HK.out.symm.trans (by rw [if_neg (by simp; omega)])
        clear HK
        have X3 := hide (heap_new w2 (.cells #[.int .i64 Xg, .int .i64 Xt, .int .i64 Xf, .bool true, .int .i64 Xl, .int .i64 Xc] 73))
        have N3 := hide (heap_below N2.out (below_alloc w2 (.cells #[.int .i64 Xg, .int .i64 Xt, .int .i64 Xf, .bool true, .int .i64 Xl, .int .i64 Xc] 73)))
        have L3 := hide (L2.out.below (below_alloc w2 (.cells #[.int .i64 Xg, .int .i64 Xt, .int .i64 Xf, .bool true, .int .i64 Xl, .int .i64 Xc] 73)))
        obtain ⟨sb, so, es3, -, -, t2, sa⟩ := L3.out.st.read HY.out
        subst es3
        have SAt := hide sa
        clear sa
        by_cases hbf : (b : Int) ≤ Xf
        · obtain rfl : kx = 0 := HK2.out.trans (if_pos hbf)
          go_wp2_with fail
          generalize w2.alloc (.cells #[.int .i64 Xg, .int .i64 Xt, .int .i64 Xf, .bool true, .int .i64 Xl, .int .i64 Xc] 73) = W3 at *
          have q1 : W3.cell? ⟨w2.heap.size, 1, none⟩ = some (.int .i64 Xt) := cell_of X3.out 1
          have q2 : W3.cell? ⟨w2.heap.size, 2, none⟩ = some (.int .i64 Xf) := cell_of X3.out 2
          have q3 : W3.cell? ⟨w2.heap.size, 3, none⟩ = some (.bool true) := cell_of X3.out 3
          have q4 : W3.cell? ⟨w2.heap.size, 4, none⟩ = some (.int .i64 Xl) := cell_of X3.out 4
          go_quiet (fail)
          go_wp2_with fail
          go_ret2
          exact ⟨rfl, btr B3.out (bdrew _ _)⟩
        have hbf' : decide ((b : Int) ≤ Xf) = false := decide_eq_false hbf
        have HK3 : Hid (kx = nm u.c Xt) := HK2.out.trans (if_neg hbf)
        clear HK2 hbf
        unfold nm at HK3
        by_cases ht : Xt < 0
        · obtain rfl : kx = 0 := HK3.out.trans (if_pos (.inl ht))
          go_wp2_with fail
          generalize w2.alloc (.cells #[.int .i64 Xg, .int .i64 Xt, .int .i64 Xf, .bool true, .int .i64 Xl, .int .i64 Xc] 73) = W3 at *
          have q1 : W3.cell? ⟨w2.heap.size, 1, none⟩ = some (.int .i64 Xt) := cell_of X3.out 1
          have q2 : W3.cell? ⟨w2.heap.size, 2, none⟩ = some (.int .i64 Xf) := cell_of X3.out 2
          have q3 : W3.cell? ⟨w2.heap.size, 3, none⟩ = some (.bool true) := cell_of X3.out 3
          have q4 : W3.cell? ⟨w2.heap.size, 4, none⟩ = some (.int .i64 Xl) := cell_of X3.out 4
          go_quiet (fail)
          go_wp2_with fail
          go_ret2
          exact ⟨rfl, btr B3.out (bdrew _ _)⟩
        have ht' : decide (Xt < 0) = false := decide_eq_false ht
        by_cases hc : (u.c.length : Int) ≤ Xt
        · obtain rfl : kx = 0 := HK3.out.trans (if_pos (.inr hc))
          go_wp2_with fail
          generalize w2.alloc (.cells #[.int .i64 Xg, .int .i64 Xt, .int .i64 Xf, .bool true, .int .i64 Xl, .int .i64 Xc] 73) = W3 at *
          have q1 : W3.cell? ⟨w2.heap.size, 1, none⟩ = some (.int .i64 Xt) := cell_of X3.out 1
          have q2 : W3.cell? ⟨w2.heap.size, 2, none⟩ = some (.int .i64 Xf) := cell_of X3.out 2
          have q3 : W3.cell? ⟨w2.heap.size, 3, none⟩ = some (.bool true) := cell_of X3.out 3
          have q4 : W3.cell? ⟨w2.heap.size, 4, none⟩ = some (.int .i64 Xl) := cell_of X3.out 4
          have y1 : W3.cell? ⟨w.heap.size, 1, none⟩ = some (.slice (some ⟨sb, so, none⟩) le cs) := cell_of N3.out 1
          go_quiet (fail)
          go_wp2_with fail
          go_ret2
          exact ⟨rfl, btr B3.out (bdrew _ _)⟩
        have hc' : decide ((u.c.length : Int) ≤ Xt) = false := decide_eq_false hc
        obtain ⟨m, rfl⟩ : ∃ m : Nat, Xt = (m : Int) := ⟨Xt.toNat, by omega⟩
        have hml : m < u.c.length := by omega
        have hml' : (m : Int) < (u.c.length : Int) := by omega
        have hc2 : decide (u.c.length ≤ m) = false := decide_eq_false (by omega)
        obtain rfl : kx = nth u.c m := HK3.out.trans (by rw [if_neg (by omega)]; simp)
        obtain ⟨ub, uo, eu, v0⟩ := SAt.out m hml
        rw [eu] at t2
        clear HK3 ht hc
        go_wp2_with fail
        generalize w2.alloc (.cells #[.int .i64 Xg, .int .i64 (m : Int), .int .i64 Xf, .bool true, .int .i64 Xl, .int .i64 Xc] 73) = W3 at *
        have q1 : W3.cell? ⟨w2.heap.size, 1, none⟩ = some (.int .i64 (m : Int)) := cell_of X3.out 1
        have q2 : W3.cell? ⟨w2.heap.size, 2, none⟩ = some (.int .i64 Xf) := cell_of X3.out 2
        have q3 : W3.cell? ⟨w2.heap.size, 3, none⟩ = some (.bool true) := cell_of X3.out 3
        have q4 : W3.cell? ⟨w2.heap.size, 4, none⟩ = some (.int .i64 Xl) := cell_of X3.out 4
        have y1 : W3.cell? ⟨w.heap.size, 1, none⟩ = some (.slice (some ⟨sb, so, none⟩) le cs) := cell_of N3.out 1
        go_quiet (fail)
        go_wp2_with fail
        go_quiet (fail)
        go_wp2_with fail
        go_ret2
        exact ⟨rfl, btr (btr B3.out (bdrew _ _)) (bdrew _ _)⟩
end Qu
end Go.Proofs.Ytgfnafipfbajcaa
