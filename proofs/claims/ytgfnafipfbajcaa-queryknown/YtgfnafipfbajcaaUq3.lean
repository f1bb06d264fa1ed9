/- Package query, over this seat's program: Before. -/
import Derived.Test.YtgfnafipfbajcaaUq2
import Derived.Deep.RegionHeld3
namespace Go.Proofs.Ytgfnafipfbajcaa
open Go.ChangeShapes Go.WideShapes Go.ChangeAt Go.RowKit
namespace Qu
open Ba Rk
open Ep (tidOf clkOf ownB)

set_option maxRecDepth 100000 in
set_option maxHeartbeats 1600000 in
theorem before_arg (oe os od : Option Addr) (le ce ls cs ld cd : Nat) (a b : Int) (w : World) (h : (hsE le ls a && hsE le ls b) = false) :
    Calls Try.prog 8 #[.agg #[.slice oe le ce, .slice os ls cs, .slice od ld cd], .int .i64 a, .int .i64 b] w fun r w' => r = .returned (.tuple #[.bool false, .int .i64 1]) ∧ Below w.heap.size w w' := by
  have HA := hide fun u => has_any oe os od le ce ls cs ld cd a u
  have HB := hide fun u => has_any oe os od le ce ls cs ld cd b u
  have BL := hide (below_alloc w (.cells #[.slice oe le ce, .slice os ls cs, .slice od ld cd] 26))
  have HN := hide (heap_new w (.cells #[.slice oe le ce, .slice os ls cs, .slice od ld cd] 26))
  generalize hsE le ls a = p at HA h
  generalize hsE le ls b = q at HB h
  cases p
  · clear h
    go_enter Try.func8, Try.ntmps8
    go_wp2_with fail
    refine (HA.out _).mono ?_
    rintro r w1 ⟨rfl, b1⟩
    have B1 := hide (btr BL.out b1)
    clear b1
    go_wp2_with fail
    go_ret2
    exact ⟨rfl, B1.out⟩
  · obtain rfl : q = false := by simpa using h
    clear h
    go_enter Try.func8, Try.ntmps8
    go_wp2_with fail
    refine (HA.out _).mono ?_
    rintro r w1 ⟨rfl, b1⟩
    have B1 := hide (btr BL.out b1)
    have N1 := hide (heap_below HN.out b1)
    have x0 : w1.cell? ⟨w.heap.size, 0, none⟩ = some (.slice oe le ce) := cell_of N1.out 0
    have x1 : w1.cell? ⟨w.heap.size, 1, none⟩ = some (.slice os ls cs) := cell_of N1.out 1
    have x2 : w1.cell? ⟨w.heap.size, 2, none⟩ = some (.slice od ld cd) := cell_of N1.out 2
    clear b1
    go_wp2_with fail
    refine (HB.out _).mono ?_
    rintro r w2 ⟨rfl, b2⟩
    have B2 := hide (btr B1.out b2)
    clear b2
    go_wp2_with fail
    go_ret2
    exact ⟨rfl, B2.out⟩
/-- of two events that are there -/
def befB (rs : List Rd) (a b : Nat) (x z : Ex) (y u : Sx) : Bool := match ask rs x y with
  | none => false
  | some r => if (ask rs z u).isSome then (if x.g = z.g then decide (a < b) else decide (1 ≤ clkOf y.e) && decide (clkOf y.e ≤ kw r (b : Int) u.c)) else false
def befE (rs : List Rd) (x z : Ex) (y u : Sx) : Int := if (ask rs x y).isSome && (ask rs z u).isSome then 0 else 6
theorem hs_in {le : Nat} {a : Nat} (h : a < le) : hsE le le (a : Int) = true := by
  unfold hsE
  simp
  omega
set_option maxRecDepth 100000 in
set_option maxHeartbeats 6400000 in
theorem before_in (oe os od : Option Addr) (ce cs cd : Nat) (es : List Ex) (ss : List Sx) (rs : List Rd) (a b : Nat) (x z : Ex) (y u : Sx) (w : World) (h : LG w oe os od es ss rs) (hn : ss.length = es.length) (hxa : es[a]? = some x) (hya : ss[a]? = some y) (hxb : es[b]? = some z) (hyb : ss[b]? = some u) (hl : rs.length ≤ 100000) :
    Calls Try.prog 8 #[.agg #[.slice oe es.length ce, .slice os ss.length cs, .slice od rs.length cd], .int .i64 (a : Int), .int .i64 (b : Int)] w fun r w' => r = .returned (.tuple #[.bool (befB rs a b x z y u), .int .i64 (befE rs x z y u)]) ∧ Below w.heap.size w w' := by
  have hla := (List.getElem?_eq_some_iff.1 hxa).1
  have hlb := (List.getElem?_eq_some_iff.1 hxb).1
  have HA := hide fun v => has_any oe os od es.length ce ss.length cs rs.length cd (a : Int) v
  have HB := hide fun v => has_any oe os od es.length ce ss.length cs rs.length cd (b : Int) v
  have KA := hide fun v (hv : LG v oe os od es ss rs) => asked_any oe os od ce cs cd es ss rs a x y v hv hxa hya hl
  have KB := hide fun v (hv : LG v oe os od es ss rs) => asked_any oe os od ce cs cd es ss rs b z u v hv hxb hyb hl
  have KN := hide fun r v (hv : LG v oe os od es ss rs) => known_any oe os od es.length ce cs rs.length cd ss b u r v hv.st hyb
  rw [hn, hs_in hla] at HA
  rw [hn, hs_in hlb] at HB
  rw [hn] at KA KB KN ⊢
  have LL := hide h
  have EA1 := hide hxa
  have EB1 := hide hxb
  have SA1 := hide hya
  obtain ⟨-, -, -, -, -, -, -, e0, e1⟩ := h.st.read hya
  have BT := hide fun m v => qbclk y.e 1 m e0 e1 v
  unfold befB befE
  generalize ask rs x y = O at KA ⊢
  obtain ⟨q, hq⟩ : ∃ q, (ask rs z u).isSome = q := ⟨_, rfl⟩
  rw [hq] at KB
  simp only [hq]
  generalize fdR (ask rs z u) = Y at KB
  obtain ⟨Yg, Yt, Yf, Yb, Yl, Yc⟩ := Y
  have HL := hide (And.intro hla hlb)
  obtain ⟨le, hle⟩ : ∃ le, es.length = le := ⟨_, rfl⟩
  obtain ⟨ld, hld⟩ : ∃ ld, rs.length = ld := ⟨_, rfl⟩
  rw [hle] at HA HB KA KB KN HL ⊢
  rw [hld] at HA HB KA KB KN ⊢
  have hla' : (a : Int) < (le : Int) := by have := HL.out; omega
  have hlb' : (b : Int) < (le : Int) := by have := HL.out; omega
  unfold rv at KA KB KN
  simp only at KB
  have b0 := below_alloc w (.cells #[.slice oe le ce, .slice os le cs, .slice od ld cd] 26)
  have L0 := hide (h.below b0)
  have B0 := hide b0
  have HN := hide (heap_new w (.cells #[.slice oe le ce, .slice os le cs, .slice od ld cd] 26))
  clear h hn hxa hya hxb hyb hla hlb hle hld hl hq b0 e0 e1
  cases O with
  | none =>
    simp only [Option.isSome_none, Bool.false_and, Bool.false_eq_true, if_false]
    unfold fdR zr at KA
    simp only [Option.getD_none, Option.isSome_none] at KA
    go_enter Try.func8, Try.ntmps8
    go_wp2_with fail
    generalize w.alloc (.cells #[.slice oe le ce, .slice os le cs, .slice od ld cd] 26) = W at *
    refine (HA.out _).mono ?_
    rintro r w1 ⟨rfl, b1⟩
    have N1 := hide (heap_below HN.out b1)
    have x0 : w1.cell? ⟨w.heap.size, 0, none⟩ = some (.slice oe le ce) := cell_of N1.out 0
    have x1 : w1.cell? ⟨w.heap.size, 1, none⟩ = some (.slice os le cs) := cell_of N1.out 1
    have x2 : w1.cell? ⟨w.heap.size, 2, none⟩ = some (.slice od ld cd) := cell_of N1.out 2
    have B1 := hide (btr B0.out b1)
    have L1 := hide (L0.out.below b1)
    clear b1
    go_wp2_with fail
    refine (HB.out _).mono ?_
    rintro r w2 ⟨rfl, b2⟩
    have N2 := hide (heap_below N1.out b2)
    have x0 : w2.cell? ⟨w.heap.size, 0, none⟩ = some (.slice oe le ce) := cell_of N2.out 0
    have x1 : w2.cell? ⟨w.heap.size, 1, none⟩ = some (.slice os le cs) := cell_of N2.out 1
    have x2 : w2.cell? ⟨w.heap.size, 2, none⟩ = some (.slice od ld cd) := cell_of N2.out 2
    have B2 := hide (btr B1.out b2)
    have L2 := hide (L1.out.below b2)
    clear b2
    go_wp2_with fail
    refine (KA.out _ L2.out).mono ?_
    rintro r w3 ⟨rfl, b3⟩
    have B3 := hide (btr B2.out b3)
    clear b3
    go_wp2_with fail
    go_ret2
    exact ⟨rfl, btr B3.out (below_alloc _ _)⟩
  | some X =>
    simp only [Option.isSome_some, Bool.true_and]
    unfold fdR at KA
    simp only [Option.getD_some, Option.isSome_some] at KA
    have KNX := hide (KN.out X)
    generalize hkx : kw X (b : Int) u.c = kx at KNX ⊢
    clear hkx KN
    obtain ⟨Xg, Xt, Xf, Xb, Xl, Xc⟩ := X
    simp only at KA KNX
    cases q
    · simp only [Bool.false_eq_true, if_false]
      go_enter Try.func8, Try.ntmps8
      go_wp2_with fail
      generalize w.alloc (.cells #[.slice oe le ce, .slice os le cs, .slice od ld cd] 26) = W at *
      refine (HA.out _).mono ?_
      rintro r w1 ⟨rfl, b1⟩
      have N1 := hide (heap_below HN.out b1)
      have x0 : w1.cell? ⟨w.heap.size, 0, none⟩ = some (.slice oe le ce) := cell_of N1.out 0
      have x1 : w1.cell? ⟨w.heap.size, 1, none⟩ = some (.slice os le cs) := cell_of N1.out 1
      have x2 : w1.cell? ⟨w.heap.size, 2, none⟩ = some (.slice od ld cd) := cell_of N1.out 2
      have B1 := hide (btr B0.out b1)
      have L1 := hide (L0.out.below b1)
      clear b1
      go_wp2_with fail
      refine (HB.out _).mono ?_
      rintro r w2 ⟨rfl, b2⟩
      have N2 := hide (heap_below N1.out b2)
      have x0 : w2.cell? ⟨w.heap.size, 0, none⟩ = some (.slice oe le ce) := cell_of N2.out 0
      have x1 : w2.cell? ⟨w.heap.size, 1, none⟩ = some (.slice os le cs) := cell_of N2.out 1
      have x2 : w2.cell? ⟨w.heap.size, 2, none⟩ = some (.slice od ld cd) := cell_of N2.out 2
      have B2 := hide (btr B1.out b2)
      have L2 := hide (L1.out.below b2)
      clear b2
      go_wp2_with fail
      refine (KA.out _ L2.out).mono ?_
      rintro r w3 ⟨rfl, b3⟩
      have b4 := below_alloc w3 (.cells #[.int .i64 Xg, .int .i64 Xt, .int .i64 Xf, .bool Xb, .int .i64 Xl, .int .i64 Xc] 45)
      have N3 := hide (heap_below N2.out b3)
      have N4 := hide (heap_below N3.out b4)
      have L4 := hide (L2.out.below (btr b3 b4))
      have B4 := hide (btr (btr B2.out b3) b4)
      have R4 := hide (heap_new w3 (.cells #[.int .i64 Xg, .int .i64 Xt, .int .i64 Xf, .bool Xb, .int .i64 Xl, .int .i64 Xc] 45))
      clear b3 b4 x0 x1 x2
      have hN3 := heap_lt N3.out
      have x0 : w3.cell? ⟨w.heap.size, 0, none⟩ = some (.slice oe le ce) := cell_of N3.out 0
      have x1 : w3.cell? ⟨w.heap.size, 1, none⟩ = some (.slice os le cs) := cell_of N3.out 1
      have x2 : w3.cell? ⟨w.heap.size, 2, none⟩ = some (.slice od ld cd) := cell_of N3.out 2
      go_wp2_with fail
      generalize w3.alloc (.cells #[.int .i64 Xg, .int .i64 Xt, .int .i64 Xf, .bool Xb, .int .i64 Xl, .int .i64 Xc] 45) = W3 at *
      refine (KB.out _ L4.out).mono ?_
      rintro r w4 ⟨rfl, b4⟩
      have B5 := hide (btr B4.out b4)
      clear b4
      go_wp2_with fail
      go_ret2
      exact ⟨rfl, btr B5.out (below_alloc _ _)⟩
    · simp only [if_true]
      by_cases hg : x.g = z.g
      · rw [if_pos hg]
        have HG : Hid (x.g = z.g) := hg
        clear hg
        go_enter Try.func8, Try.ntmps8
        go_wp2_with fail
        generalize w.alloc (.cells #[.slice oe le ce, .slice os le cs, .slice od ld cd] 26) = W at *
        refine (HA.out _).mono ?_
        rintro r w1 ⟨rfl, b1⟩
        have N1 := hide (heap_below HN.out b1)
        have x0 : w1.cell? ⟨w.heap.size, 0, none⟩ = some (.slice oe le ce) := cell_of N1.out 0
        have x1 : w1.cell? ⟨w.heap.size, 1, none⟩ = some (.slice os le cs) := cell_of N1.out 1
        have x2 : w1.cell? ⟨w.heap.size, 2, none⟩ = some (.slice od ld cd) := cell_of N1.out 2
        have B1 := hide (btr B0.out b1)
        have L1 := hide (L0.out.below b1)
        clear b1
        go_wp2_with fail
        refine (HB.out _).mono ?_
        rintro r w2 ⟨rfl, b2⟩
        have N2 := hide (heap_below N1.out b2)
        have x0 : w2.cell? ⟨w.heap.size, 0, none⟩ = some (.slice oe le ce) := cell_of N2.out 0
        have x1 : w2.cell? ⟨w.heap.size, 1, none⟩ = some (.slice os le cs) := cell_of N2.out 1
        have x2 : w2.cell? ⟨w.heap.size, 2, none⟩ = some (.slice od ld cd) := cell_of N2.out 2
        have B2 := hide (btr B1.out b2)
        have L2 := hide (L1.out.below b2)
        clear b2
        go_wp2_with fail
        refine (KA.out _ L2.out).mono ?_
        rintro r w3 ⟨rfl, b3⟩
        have b4 := below_alloc w3 (.cells #[.int .i64 Xg, .int .i64 Xt, .int .i64 Xf, .bool Xb, .int .i64 Xl, .int .i64 Xc] 45)
        have N3 := hide (heap_below N2.out b3)
        have N4 := hide (heap_below N3.out b4)
        have L4 := hide (L2.out.below (btr b3 b4))
        have B4 := hide (btr (btr B2.out b3) b4)
        have R4 := hide (heap_new w3 (.cells #[.int .i64 Xg, .int .i64 Xt, .int .i64 Xf, .bool Xb, .int .i64 Xl, .int .i64 Xc] 45))
        clear b3 b4 x0 x1 x2
        have hN3 := heap_lt N3.out
        have x0 : w3.cell? ⟨w.heap.size, 0, none⟩ = some (.slice oe le ce) := cell_of N3.out 0
        have x1 : w3.cell? ⟨w.heap.size, 1, none⟩ = some (.slice os le cs) := cell_of N3.out 1
        have x2 : w3.cell? ⟨w.heap.size, 2, none⟩ = some (.slice od ld cd) := cell_of N3.out 2
        go_wp2_with fail
        generalize w3.alloc (.cells #[.int .i64 Xg, .int .i64 Xt, .int .i64 Xf, .bool Xb, .int .i64 Xl, .int .i64 Xc] 45) = W3 at *
        refine (KB.out _ L4.out).mono ?_
        rintro r w4 ⟨rfl, b4⟩
        have b5 := below_alloc w4 (.cells #[.int .i64 Yg, .int .i64 Yt, .int .i64 Yf, .bool Yb, .int .i64 Yl, .int .i64 Yc] 45)
        have N5 := hide (heap_below N4.out b4)
        have N6 := hide (heap_below N5.out b5)
        have R6 := hide (heap_below R4.out (btr b4 b5))
        have L6 := hide (L4.out.below (btr b4 b5))
        have B6 := hide (btr B4.out (btr b4 b5))
        have hN5 := heap_lt N5.out
        clear b4 b5 x0 x1 x2
        go_wp2_with fail
        generalize w4.alloc (.cells #[.int .i64 Yg, .int .i64 Yt, .int .i64 Yf, .bool Yb, .int .i64 Yl, .int .i64 Yc] 45) = W5 at *
        have x0 : W5.cell? ⟨w.heap.size, 0, none⟩ = some (.slice oe le ce) := cell_of N6.out 0
        have x1 : W5.cell? ⟨w.heap.size, 1, none⟩ = some (.slice os le cs) := cell_of N6.out 1
        have x2 : W5.cell? ⟨w.heap.size, 2, none⟩ = some (.slice od ld cd) := cell_of N6.out 2
        obtain ⟨eb, eo, ee, -, p1, -⟩ := L6.out.ev.read EA1.out
        obtain ⟨eb2, eo2, ee2, -, p2, -⟩ := L6.out.ev.read EB1.out
        rw [ee] at ee2
        cases ee2
        subst ee
        have p3 := p1
        rw [HG.out] at p1
        clear p3
        generalize z.g = zg at *
        go_wp2_with fail
        go_quiet (fail)
        go_wp2_with fail
        go_ret2
        exact ⟨by simp, btr B6.out (bdrew _ _)⟩
      · rw [if_neg hg]
        have hgb : (x.g == z.g) = false := beq_eq_false_iff_ne.2 hg
        clear hg
        go_enter Try.func8, Try.ntmps8
        go_wp2_with fail
        generalize w.alloc (.cells #[.slice oe le ce, .slice os le cs, .slice od ld cd] 26) = W at *
        refine (HA.out _).mono ?_
        rintro r w1 ⟨rfl, b1⟩
        have N1 := hide (heap_below HN.out b1)
        have x0 : w1.cell? ⟨w.heap.size, 0, none⟩ = some (.slice oe le ce) := cell_of N1.out 0
        have x1 : w1.cell? ⟨w.heap.size, 1, none⟩ = some (.slice os le cs) := cell_of N1.out 1
        have x2 : w1.cell? ⟨w.heap.size, 2, none⟩ = some (.slice od ld cd) := cell_of N1.out 2
        have B1 := hide (btr B0.out b1)
        have L1 := hide (L0.out.below b1)
        clear b1
        go_wp2_with fail
        refine (HB.out _).mono ?_
        rintro r w2 ⟨rfl, b2⟩
        have N2 := hide (heap_below N1.out b2)
        have x0 : w2.cell? ⟨w.heap.size, 0, none⟩ = some (.slice oe le ce) := cell_of N2.out 0
        have x1 : w2.cell? ⟨w.heap.size, 1, none⟩ = some (.slice os le cs) := cell_of N2.out 1
        have x2 : w2.cell? ⟨w.heap.size, 2, none⟩ = some (.slice od ld cd) := cell_of N2.out 2
        have B2 := hide (btr B1.out b2)
        have L2 := hide (L1.out.below b2)
        clear b2
        go_wp2_with fail
        refine (KA.out _ L2.out).mono ?_
        rintro r w3 ⟨rfl, b3⟩
        have b4 := below_alloc w3 (.cells #[.int .i64 Xg, .int .i64 Xt, .int .i64 Xf, .bool Xb, .int .i64 Xl, .int .i64 Xc] 45)
        have N3 := hide (heap_below N2.out b3)
        have N4 := hide (heap_below N3.out b4)
        have L4 := hide (L2.out.below (btr b3 b4))
        have B4 := hide (btr (btr B2.out b3) b4)
        have R4 := hide (heap_new w3 (.cells #[.int .i64 Xg, .int .i64 Xt, .int .i64 Xf, .bool Xb, .int .i64 Xl, .int .i64 Xc] 45))
        clear b3 b4 x0 x1 x2
        have hN3 := heap_lt N3.out
        have x0 : w3.cell? ⟨w.heap.size, 0, none⟩ = some (.slice oe le ce) := cell_of N3.out 0
        have x1 : w3.cell? ⟨w.heap.size, 1, none⟩ = some (.slice os le cs) := cell_of N3.out 1
        have x2 : w3.cell? ⟨w.heap.size, 2, none⟩ = some (.slice od ld cd) := cell_of N3.out 2
        go_wp2_with fail
        generalize w3.alloc (.cells #[.int .i64 Xg, .int .i64 Xt, .int .i64 Xf, .bool Xb, .int .i64 Xl, .int .i64 Xc] 45) = W3 at *
        refine (KB.out _ L4.out).mono ?_
        rintro r w4 ⟨rfl, b4⟩
        have b5 := below_alloc w4 (.cells #[.int .i64 Yg, .int .i64 Yt, .int .i64 Yf, .bool Yb, .int .i64 Yl, .int .i64 Yc] 45)
        have N5 := hide (heap_below N4.out b4)
        have N6 := hide (heap_below N5.out b5)
        have R6 := hide (heap_below R4.out (btr b4 b5))
        have L6 := hide (L4.out.below (btr b4 b5))
        have B6 := hide (btr B4.out (btr b4 b5))
        have hN5 := heap_lt N5.out
        clear b4 b5 x0 x1 x2
        go_wp2_with fail
        generalize w4.alloc (.cells #[.int .i64 Yg, .int .i64 Yt, .int .i64 Yf, .bool Yb, .int .i64 Yl, .int .i64 Yc] 45) = W5 at *
        have x0 : W5.cell? ⟨w.heap.size, 0, none⟩ = some (.slice oe le ce) := cell_of N6.out 0
        have x1 : W5.cell? ⟨w.heap.size, 1, none⟩ = some (.slice os le cs) := cell_of N6.out 1
        have x2 : W5.cell? ⟨w.heap.size, 2, none⟩ = some (.slice od ld cd) := cell_of N6.out 2
        obtain ⟨eb, eo, ee, -, p1, -⟩ := L6.out.ev.read EA1.out
        obtain ⟨eb2, eo2, ee2, -, p2, -⟩ := L6.out.ev.read EB1.out
        rw [ee] at ee2
        cases ee2
        subst ee
        obtain ⟨sb, so, es2, t0, -⟩ := L6.out.st.read SA1.out
        subst es2
        generalize x.g = xg at *
        generalize z.g = zg at *
        generalize hye : y.e = ye at *
        have HYE := hide hye
        clear hye
        have MK := mkf
        go_wp2_with fail
        go_quiet (fail)
        go_wp2_with fail
        have R7 := hide (heap_below R6.out (bdrew W5 nq))
        have N7 := hide (heap_below N6.out (bdrew W5 nq))
        have L7 := hide (L6.out.below (bdrew W5 nq))
        have B7 := hide (btr B6.out (bdrew W5 nq))
        have t7 : (W5.drewN nq).cell? ⟨sb, so + a * 2, none⟩ = some (.int .u64 ye) := t0
        generalize W5.drewN nq = W7 at *
        have r0 : W7.cell? ⟨w3.heap.size, 0, none⟩ = some (.int .i64 Xg) := cell_of R7.out 0
        have r1 : W7.cell? ⟨w3.heap.size, 1, none⟩ = some (.int .i64 Xt) := cell_of R7.out 1
        have r2 : W7.cell? ⟨w3.heap.size, 2, none⟩ = some (.int .i64 Xf) := cell_of R7.out 2
        have r3 : W7.cell? ⟨w3.heap.size, 3, none⟩ = some (.bool Xb) := cell_of R7.out 3
        have r4 : W7.cell? ⟨w3.heap.size, 4, none⟩ = some (.int .i64 Xl) := cell_of R7.out 4
        have r5 : W7.cell? ⟨w3.heap.size, 5, none⟩ = some (.int .i64 Xc) := cell_of R7.out 5
        have n0 : W7.cell? ⟨w.heap.size, 0, none⟩ = some (.slice (some ⟨eb, eo, none⟩) le ce) := cell_of N7.out 0
        have n1 : W7.cell? ⟨w.heap.size, 1, none⟩ = some (.slice (some ⟨sb, so, none⟩) le cs) := cell_of N7.out 1
        have n2 : W7.cell? ⟨w.heap.size, 2, none⟩ = some (.slice od ld cd) := cell_of N7.out 2
        clear x0 x1 x2 p1 p2 t0
        go_region_held3 (fun w' => w'.cell? ⟨w3.heap.size, 0, none⟩ = some (.int .i64 Xg) ∧ w'.cell? ⟨w3.heap.size, 1, none⟩ = some (.int .i64 Xt) ∧ w'.cell? ⟨w3.heap.size, 2, none⟩ = some (.int .i64 Xf) ∧ w'.cell? ⟨w3.heap.size, 3, none⟩ = some (.bool Xb) ∧ w'.cell? ⟨w3.heap.size, 4, none⟩ = some (.int .i64 Xl) ∧ w'.cell? ⟨w3.heap.size, 5, none⟩ = some (.int .i64 Xc) ∧ w'.cell? ⟨w.heap.size, 0, none⟩ = some (.slice (some ⟨eb, eo, none⟩) le ce) ∧ w'.cell? ⟨w.heap.size, 1, none⟩ = some (.slice (some ⟨sb, so, none⟩) le cs) ∧ w'.cell? ⟨w.heap.size, 2, none⟩ = some (.slice od ld cd) ∧ w'.cell? ⟨sb, so + a * 2, none⟩ = some (.int .u64 ye))
          (first
            | (go_keep; done)
            | (go_split_ands; refine ⟨?_, ?_, ?_, ?_, ?_, ?_, ?_, ?_, ?_, ?_⟩ <;> (refine cellB ?_ c1; assumption)))
          (first
            | (go_at_call 20; refine (KNX.out _ (L7.out.below (bdrew1 _))).mono ?_; rintro r v1 ⟨rfl, c1⟩)
            | (go_at_call 19; refine (BT.out _ _).mono ?_; rintro r v2 ⟨rfl, c2⟩; obtain rfl := c2.symm))
        all_goals
          have B8 := hide (btr (btr B7.out (bdrew1 _)) c1)
          clear c1
          go_wp2_with fail
          go_ret2
          exact ⟨by rw [HYE.out]; rfl, B8.out⟩
end Qu
end Go.Proofs.Ytgfnafipfbajcaa
