/- The reference's log, over this seat's program: Before. -/
import Derived.Test.YtgfnafipfbajcaaUq9
import Derived.Deep.RegionHeld3
namespace Go.Proofs.Ytgfnafipfbajcaa
open Go.ChangeShapes Go.WideShapes Go.ChangeAt Go.RowKit
namespace Qu
open Ba Rk

set_option maxRecDepth 100000 in
set_option maxHeartbeats 1600000 in
theorem rbef_arg (oe os od : Option Addr) (le ce ls cs ld cd : Nat) (a b : Int) (w : World) (h : (hsE le ls a && hsE le ls b) = false) :
    Calls Try.prog 9 #[.agg #[.slice oe le ce, .slice os ls cs, .slice od ld cd], .int .i64 a, .int .i64 b] w fun r w' => r = .returned (.tuple #[.bool false, .int .i64 1]) ∧ Below w.heap.size w w' := by
  unfold hsE at h
  have BL := hide (below_alloc w (.cells #[.slice oe le ce, .slice os ls cs, .slice od ld cd] 37))
  cases h1 : ((ls : Int) == (le : Int))
  · have h1' : ((ls : Int) != (le : Int)) = true := by simp [bne, h1]
    have h2 : (ls != le) = true := by simp at h1' ⊢; omega
    clear h h1
    go_enter Try.func9, Try.ntmps9
    go_wp2_with fail
    go_ret2
    exact ⟨rfl, BL.out⟩
  · have e : ls = le := by simp at h1; omega
    subst e
    clear h1
    by_cases h2 : a < 0
    · clear h
      go_enter Try.func9, Try.ntmps9
      go_wp2_with fail
      go_ret2
      exact ⟨rfl, BL.out⟩
    by_cases h3 : (ls : Int) ≤ a
    · clear h
      go_enter Try.func9, Try.ntmps9
      go_wp2_with fail
      go_ret2
      exact ⟨rfl, BL.out⟩
    by_cases h4 : b < 0
    · clear h
      go_enter Try.func9, Try.ntmps9
      go_wp2_with fail
      go_ret2
      exact ⟨rfl, BL.out⟩
    · have h5 : (ls : Int) ≤ b := by simp at h; omega
      clear h
      go_enter Try.func9, Try.ntmps9
      go_wp2_with fail
      go_ret2
      exact ⟨rfl, BL.out⟩
def rbfB (rs : List Rd) (a b : Nat) (x z : Ex) (y u : Tx) : Bool := if rask rs x y && rask rs z u then (if x.g = z.g then decide (a < b) else decide (y.n ≤ rknV rs (b : Int) z u x.g)) else false
def rbfE (rs : List Rd) (x z : Ex) (y u : Tx) : Int := if rask rs x y && rask rs z u then (if x.g = z.g then 0 else rknE rs z u x.g) else 6
set_option maxRecDepth 100000 in
set_option maxHeartbeats 6400000 in
theorem rbef_in (oe os od : Option Addr) (ce cs cd : Nat) (es : List Ex) (ts : List Tx) (rs : List Rd) (a b : Nat) (x z : Ex) (y u : Tx) (w : World) (h : RG w oe os od es ts rs) (hn : ts.length = es.length) (hxa : es[a]? = some x) (hya : ts[a]? = some y) (hxb : es[b]? = some z) (hyb : ts[b]? = some u) (hl : rs.length ≤ 100000) :
    Calls Try.prog 9 #[.agg #[.slice oe es.length ce, .slice os ts.length cs, .slice od rs.length cd], .int .i64 (a : Int), .int .i64 (b : Int)] w fun r w' => r = .returned (.tuple #[.bool (rbfB rs a b x z y u), .int .i64 (rbfE rs x z y u)]) ∧ Below w.heap.size w w' := by
  have hla := (List.getElem?_eq_some_iff.1 hxa).1
  have hlb := (List.getElem?_eq_some_iff.1 hxb).1
  have KA := hide fun v (hv : RG v oe os od es ts rs) => rasked_any oe os od ce cs cd es ts rs a x y v hv hxa hya hl
  have KB := hide fun v (hv : RG v oe os od es ts rs) => rasked_any oe os od ce cs cd es ts rs b z u v hv hxb hyb hl
  have KN := hide fun v (hv : RG v oe os od es ts rs) => rkno_in oe os od ce cs cd es ts rs b x.g z u v hv hn hxb hyb hl
  rw [hn] at KA KB KN ⊢
  unfold rbfB rbfE
  generalize rask rs x y = p at KA ⊢
  generalize rask rs z u = q at KB ⊢
  generalize rknV rs (b : Int) z u x.g = kv at KN ⊢
  generalize rknE rs z u x.g = ke at KN ⊢
  have EA1 := hide hxa
  have EB1 := hide hxb
  have SA1 := hide hya
  have LL := hide h
  obtain ⟨le, hle⟩ : ∃ le, es.length = le := ⟨_, rfl⟩
  obtain ⟨ld, hld⟩ : ∃ ld, rs.length = ld := ⟨_, rfl⟩
  rw [hle] at KA KB KN hla hlb ⊢
  rw [hld] at KA KB KN ⊢
  have hla1 : (a : Int) < (le : Int) := by omega
  have hlb1 : (b : Int) < (le : Int) := by omega
  have hla2 : decide ((le : Int) ≤ (a : Int)) = false := decide_eq_false (by omega)
  have hlb2 : decide ((le : Int) ≤ (b : Int)) = false := decide_eq_false (by omega)
  have hla3 : decide (le ≤ a) = false := decide_eq_false (by omega)
  have hlb3 : decide (le ≤ b) = false := decide_eq_false (by omega)
  have b0 := below_alloc w (.cells #[.slice oe le ce, .slice os le cs, .slice od ld cd] 37)
  have L0 := hide (h.below b0)
  have B0 := hide b0
  have HN := hide (heap_new w (.cells #[.slice oe le ce, .slice os le cs, .slice od ld cd] 37))
  clear h hn hxa hya hxb hyb hle hld hl b0 LL
  cases p
  · simp only [Bool.false_and, Bool.false_eq_true, if_false]
    go_enter Try.func9, Try.ntmps9
    go_wp2_with fail
    generalize w.alloc (.cells #[.slice oe le ce, .slice os le cs, .slice od ld cd] 37) = W at *
    refine (KA.out _ L0.out).mono ?_
    rintro r w1 ⟨rfl, b1⟩
    have B1 := hide (btr B0.out b1)
    clear b1
    go_wp2_with fail
    go_ret2
    exact ⟨rfl, B1.out⟩
  cases q
  · simp only [Bool.and_false, Bool.false_eq_true, if_false]
    go_enter Try.func9, Try.ntmps9
    go_wp2_with fail
    generalize w.alloc (.cells #[.slice oe le ce, .slice os le cs, .slice od ld cd] 37) = W at *
    refine (KA.out _ L0.out).mono ?_
    rintro r w1 ⟨rfl, b1⟩
    have N1 := hide (heap_below HN.out b1)
    have x0 : w1.cell? ⟨w.heap.size, 0, none⟩ = some (.slice oe le ce) := cell_of N1.out 0
    have x1 : w1.cell? ⟨w.heap.size, 1, none⟩ = some (.slice os le cs) := cell_of N1.out 1
    have x2 : w1.cell? ⟨w.heap.size, 2, none⟩ = some (.slice od ld cd) := cell_of N1.out 2
    have B1 := hide (btr B0.out b1)
    have L1 := hide (L0.out.below b1)
    clear b1
    go_wp2_with fail
    refine (KB.out _ L1.out).mono ?_
    rintro r w2 ⟨rfl, b2⟩
    have B2 := hide (btr B1.out b2)
    clear b2
    go_wp2_with fail
    go_ret2
    exact ⟨rfl, B2.out⟩
  simp only [Bool.and_self, if_true]
  by_cases hg : x.g = z.g
  · rw [if_pos hg, if_pos hg]
    have HG : Hid (x.g = z.g) := hg
    clear hg KN
    go_enter Try.func9, Try.ntmps9
    go_wp2_with fail
    generalize w.alloc (.cells #[.slice oe le ce, .slice os le cs, .slice od ld cd] 37) = W at *
    refine (KA.out _ L0.out).mono ?_
    rintro r w1 ⟨rfl, b1⟩
    have N1 := hide (heap_below HN.out b1)
    have x0 : w1.cell? ⟨w.heap.size, 0, none⟩ = some (.slice oe le ce) := cell_of N1.out 0
    have x1 : w1.cell? ⟨w.heap.size, 1, none⟩ = some (.slice os le cs) := cell_of N1.out 1
    have x2 : w1.cell? ⟨w.heap.size, 2, none⟩ = some (.slice od ld cd) := cell_of N1.out 2
    have B1 := hide (btr B0.out b1)
    have L1 := hide (L0.out.below b1)
    clear b1
    go_wp2_with fail
    refine (KB.out _ L1.out).mono ?_
    rintro r w2 ⟨rfl, b2⟩
    have N2 := hide (heap_below N1.out b2)
    have B2 := hide (btr B1.out b2)
    have L2 := hide (L1.out.below b2)
    clear b2 x0 x1 x2
    have x0 : w2.cell? ⟨w.heap.size, 0, none⟩ = some (.slice oe le ce) := cell_of N2.out 0
    have x1 : w2.cell? ⟨w.heap.size, 1, none⟩ = some (.slice os le cs) := cell_of N2.out 1
    have x2 : w2.cell? ⟨w.heap.size, 2, none⟩ = some (.slice od ld cd) := cell_of N2.out 2
    obtain ⟨eb, eo, ee, -, p1, -⟩ := L2.out.ev.read EA1.out
    obtain ⟨eb2, eo2, ee2, -, p2, -⟩ := L2.out.ev.read EB1.out
    rw [ee] at ee2
    cases ee2
    subst ee
    rw [HG.out] at p1
    generalize z.g = zg at *
    go_wp2_with fail
    go_quiet (fail)
    go_wp2_with fail
    go_ret2
    exact ⟨by simp, btr B2.out (bdrew _ _)⟩
  · rw [if_neg hg, if_neg hg]
    have hgb : (x.g == z.g) = false := beq_eq_false_iff_ne.2 hg
    clear hg
    go_enter Try.func9, Try.ntmps9
    go_wp2_with fail
    generalize w.alloc (.cells #[.slice oe le ce, .slice os le cs, .slice od ld cd] 37) = W at *
    refine (KA.out _ L0.out).mono ?_
    rintro r w1 ⟨rfl, b1⟩
    have N1 := hide (heap_below HN.out b1)
    have x0 : w1.cell? ⟨w.heap.size, 0, none⟩ = some (.slice oe le ce) := cell_of N1.out 0
    have x1 : w1.cell? ⟨w.heap.size, 1, none⟩ = some (.slice os le cs) := cell_of N1.out 1
    have x2 : w1.cell? ⟨w.heap.size, 2, none⟩ = some (.slice od ld cd) := cell_of N1.out 2
    have B1 := hide (btr B0.out b1)
    have L1 := hide (L0.out.below b1)
    clear b1
    go_wp2_with fail
    refine (KB.out _ L1.out).mono ?_
    rintro r w2 ⟨rfl, b2⟩
    have N2 := hide (heap_below N1.out b2)
    have B2 := hide (btr B1.out b2)
    have L2 := hide (L1.out.below b2)
    clear b2 x0 x1 x2
    have x0 : w2.cell? ⟨w.heap.size, 0, none⟩ = some (.slice oe le ce) := cell_of N2.out 0
    have x1 : w2.cell? ⟨w.heap.size, 1, none⟩ = some (.slice os le cs) := cell_of N2.out 1
    have x2 : w2.cell? ⟨w.heap.size, 2, none⟩ = some (.slice od ld cd) := cell_of N2.out 2
    obtain ⟨eb, eo, ee, -, p1, -⟩ := L2.out.ev.read EA1.out
    obtain ⟨eb2, eo2, ee2, -, p2, -⟩ := L2.out.ev.read EB1.out
    rw [ee] at ee2
    cases ee2
    subst ee
    obtain ⟨sb, so, es2, -, t1, -⟩ := L2.out.st.read SA1.out
    subst es2
    generalize x.g = xg at *
    generalize z.g = zg at *
    generalize hyn : y.n = yn at *
    have HYN := hide hyn
    clear hyn
    go_wp2_with fail
    go_quiet (fail)
    go_wp2_with fail
    have L7 := hide (L2.out.below (bdrew w2 nq))
    have N7 := hide (heap_below N2.out (bdrew w2 nq))
    have B7 := hide (btr B2.out (bdrew w2 nq))
    have p7 : (w2.drewN nq).cell? ⟨eb, eo + a * 8 + 1, none⟩ = some (.int .i64 xg) := p1
    have t7 : (w2.drewN nq).cell? ⟨sb, so + a * 3 + 1, none⟩ = some (.int .i64 yn) := t1
    generalize w2.drewN nq = W7 at *
    have n0 : W7.cell? ⟨w.heap.size, 0, none⟩ = some (.slice (some ⟨eb, eo, none⟩) le ce) := cell_of N7.out 0
    have n1 : W7.cell? ⟨w.heap.size, 1, none⟩ = some (.slice (some ⟨sb, so, none⟩) le cs) := cell_of N7.out 1
    have n2 : W7.cell? ⟨w.heap.size, 2, none⟩ = some (.slice od ld cd) := cell_of N7.out 2
    clear x0 x1 x2 p1 p2 t1
    go_region_held3 (fun w' => w'.cell? ⟨w.heap.size, 0, none⟩ = some (.slice (some ⟨eb, eo, none⟩) le ce) ∧ w'.cell? ⟨w.heap.size, 1, none⟩ = some (.slice (some ⟨sb, so, none⟩) le cs) ∧ w'.cell? ⟨w.heap.size, 2, none⟩ = some (.slice od ld cd) ∧ w'.cell? ⟨eb, eo + a * 8 + 1, none⟩ = some (.int .i64 xg) ∧ w'.cell? ⟨sb, so + a * 3 + 1, none⟩ = some (.int .i64 yn))
      (first
        | (go_keep; done)
        | (go_split_ands; refine ⟨?_, ?_, ?_, ?_, ?_⟩ <;> (refine cellB ?_ c1; assumption)))
      ((go_at_call 12; refine (KN.out _ (L7.out.below (bdrew1 _))).mono ?_; rintro r v1 ⟨rfl, c1⟩))
    all_goals
      have B8 := hide (btr (btr B7.out (bdrew1 _)) c1)
      have m1 : v1.cell? ⟨w.heap.size, 1, none⟩ = some (.slice (some ⟨sb, so, none⟩) le cs) := cellB (w := W7.drew) n1 c1
      have m2 : v1.cell? ⟨sb, so + a * 3 + 1, none⟩ = some (.int .i64 yn) := cellB (w := W7.drew) t7 c1
      clear c1
      go_wp2_with fail
      go_ret2
      exact ⟨by rw [HYN.out]; rfl, B8.out⟩
end Qu
end Go.Proofs.Ytgfnafipfbajcaa
