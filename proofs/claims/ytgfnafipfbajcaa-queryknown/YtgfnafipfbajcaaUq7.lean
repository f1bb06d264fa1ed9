/- Package query, over this seat's program: Known. The reference's log: Of. -/
import Derived.Test.YtgfnafipfbajcaaUq6
namespace Go.Proofs.Ytgfnafipfbajcaa
open Go.ChangeShapes Go.WideShapes Go.ChangeAt Go.RowKit
namespace Qu
open Ba Rk
open Ep (tidOf clkOf ownB)

set_option maxRecDepth 100000 in
set_option maxHeartbeats 1600000 in
theorem kno_arg (oe os od : Option Addr) (le ce ls cs ld cd : Nat) (b g : Int) (w : World) (h : hsE le ls b = false) :
    Calls Try.prog 11 #[.agg #[.slice oe le ce, .slice os ls cs, .slice od ld cd], .int .i64 b, .int .i64 g] w fun r w' => r = .returned (.tuple #[.int .i64 0, .int .i64 1]) ∧ Below w.heap.size w w' := by
  have HB := hide fun u => has_any oe os od le ce ls cs ld cd b u
  rw [h] at HB
  clear h
  have BL := hide (below_alloc w (.cells #[.slice oe le ce, .slice os ls cs, .slice od ld cd] 26))
  go_enter Try.func11, Try.ntmps11
  go_wp2_with fail
  refine (HB.out _).mono ?_
  rintro r w1 ⟨rfl, b1⟩
  have B1 := hide (btr BL.out b1)
  clear b1
  go_wp2_with fail
  go_ret2
  exact ⟨rfl, B1.out⟩
def knV (rs : List Rd) (b : Int) (z : Ex) (u : Sx) (g : Int) : Int := if (ask rs z u).isSome then (match fd rs g with | some r => kw r b u.c | none => 0) else 0
def knE (rs : List Rd) (z : Ex) (u : Sx) (g : Int) : Int := if (ask rs z u).isSome && (fd rs g).isSome then 0 else 6
set_option maxRecDepth 100000 in
set_option maxHeartbeats 6400000 in
theorem kno_in (oe os od : Option Addr) (ce cs cd : Nat) (es : List Ex) (ss : List Sx) (rs : List Rd) (b : Nat) (g : Int) (z : Ex) (u : Sx) (w : World) (h : LG w oe os od es ss rs) (hn : ss.length = es.length) (hxb : es[b]? = some z) (hyb : ss[b]? = some u) (hl : rs.length ≤ 100000) :
    Calls Try.prog 11 #[.agg #[.slice oe es.length ce, .slice os ss.length cs, .slice od rs.length cd], .int .i64 (b : Int), .int .i64 g] w fun r w' => r = .returned (.tuple #[.int .i64 (knV rs (b : Int) z u g), .int .i64 (knE rs z u g)]) ∧ Below w.heap.size w w' := by
  have hlb := (List.getElem?_eq_some_iff.1 hxb).1
  have HB := hide fun v => has_any oe os od es.length ce ss.length cs rs.length cd (b : Int) v
  have KB := hide fun v (hv : LG v oe os od es ss rs) => asked_any oe os od ce cs cd es ss rs b z u v hv hxb hyb hl
  have RC := hide fun v (hv : LG v oe os od es ss rs) => record_any oe os od es.length ce ss.length cs cd rs g v hv.rc hl
  have KN := hide fun r v (hv : LG v oe os od es ss rs) => known_any oe os od es.length ce cs rs.length cd ss b u r v hv.st hyb
  rw [hn, hs_in hlb] at HB
  rw [hn] at KB RC KN ⊢
  unfold knV knE
  generalize fd rs g = O at RC ⊢
  obtain ⟨q, hq⟩ : ∃ q, (ask rs z u).isSome = q := ⟨_, rfl⟩
  rw [hq] at KB
  simp only [hq]
  generalize fdR (ask rs z u) = Y at KB
  obtain ⟨Yg, Yt, Yf, Yb, Yl, Yc⟩ := Y
  obtain ⟨le, hle⟩ : ∃ le, es.length = le := ⟨_, rfl⟩
  obtain ⟨ld, hld⟩ : ∃ ld, rs.length = ld := ⟨_, rfl⟩
  rw [hle] at HB KB RC KN ⊢
  rw [hld] at HB KB RC KN ⊢
  unfold rv at KB KN RC
  simp only at KB
  have b0 := below_alloc w (.cells #[.slice oe le ce, .slice os le cs, .slice od ld cd] 26)
  have L0 := hide (h.below b0)
  have B0 := hide b0
  have HN := hide (heap_new w (.cells #[.slice oe le ce, .slice os le cs, .slice od ld cd] 26))
  clear h hn hxb hyb hlb hle hld hl hq b0
  cases q
  · simp only [Bool.false_and, Bool.false_eq_true, if_false]
    go_enter Try.func11, Try.ntmps11
    go_wp2_with fail
    generalize w.alloc (.cells #[.slice oe le ce, .slice os le cs, .slice od ld cd] 26) = W at *
    refine (HB.out _).mono ?_
    rintro r w1 ⟨rfl, b1⟩
    have N1 := hide (heap_below HN.out b1)
    have x0 : w1.cell? ⟨w.heap.size, 0, none⟩ = some (.slice oe le ce) := cell_of N1.out 0
    have x1 : w1.cell? ⟨w.heap.size, 1, none⟩ = some (.slice os le cs) := cell_of N1.out 1
    have x2 : w1.cell? ⟨w.heap.size, 2, none⟩ = some (.slice od ld cd) := cell_of N1.out 2
    have B1 := hide (btr B0.out b1)
    have L1 := hide (L0.out.below b1)
    clear b1
    go_wp2_with fail
    refine (KB.out _ L1.out).mono ?_
    rintro r w2 ⟨rfl, b2⟩
    have B2 := hide (btr B1.out b2)
    clear b2
    go_wp2_with fail
    go_ret2
    exact ⟨rfl, btr B2.out (below_alloc _ _)⟩
  · cases O with
    | none =>
      simp only [Option.isSome_none, Bool.and_false, Bool.false_eq_true, if_false, if_true]
      unfold fdR zr at RC
      simp only [Option.getD_none, Option.isSome_none] at RC
      go_enter Try.func11, Try.ntmps11
      go_wp2_with fail
      generalize w.alloc (.cells #[.slice oe le ce, .slice os le cs, .slice od ld cd] 26) = W at *
      refine (HB.out _).mono ?_
      rintro r w1 ⟨rfl, b1⟩
      have N1 := hide (heap_below HN.out b1)
      have x0 : w1.cell? ⟨w.heap.size, 0, none⟩ = some (.slice oe le ce) := cell_of N1.out 0
      have x1 : w1.cell? ⟨w.heap.size, 1, none⟩ = some (.slice os le cs) := cell_of N1.out 1
      have x2 : w1.cell? ⟨w.heap.size, 2, none⟩ = some (.slice od ld cd) := cell_of N1.out 2
      have B1 := hide (btr B0.out b1)
      have L1 := hide (L0.out.below b1)
      clear b1
      go_wp2_with fail
      refine (KB.out _ L1.out).mono ?_
      rintro r w2 ⟨rfl, b2⟩
      have b3 := below_alloc w2 (.cells #[.int .i64 Yg, .int .i64 Yt, .int .i64 Yf, .bool Yb, .int .i64 Yl, .int .i64 Yc] 45)
      have N2 := hide (heap_below N1.out b2)
      have N3 := hide (heap_below N2.out b3)
      have B3 := hide (btr (btr B1.out b2) b3)
      have L3 := hide (L1.out.below (btr b2 b3))
      have hN2 := heap_lt N2.out
      clear b2 b3 x0 x1 x2
      have x0 : w2.cell? ⟨w.heap.size, 0, none⟩ = some (.slice oe le ce) := cell_of N2.out 0
      have x1 : w2.cell? ⟨w.heap.size, 1, none⟩ = some (.slice os le cs) := cell_of N2.out 1
      have x2 : w2.cell? ⟨w.heap.size, 2, none⟩ = some (.slice od ld cd) := cell_of N2.out 2
      go_wp2_with fail
      generalize w2.alloc (.cells #[.int .i64 Yg, .int .i64 Yt, .int .i64 Yf, .bool Yb, .int .i64 Yl, .int .i64 Yc] 45) = W3 at *
      refine (RC.out _ L3.out).mono ?_
      rintro r w4 ⟨rfl, b4⟩
      have B4 := hide (btr B3.out b4)
      clear b4
      go_wp2_with fail
      go_ret2
      exact ⟨rfl, btr B4.out (below_alloc _ _)⟩
    | some X =>
      simp only [Option.isSome_some, Bool.and_self, if_true]
      unfold fdR at RC
      simp only [Option.getD_some, Option.isSome_some] at RC
      have KNX := hide (KN.out X)
      generalize hkx : kw X (b : Int) u.c = kx at KNX ⊢
      clear hkx KN
      obtain ⟨Xg, Xt, Xf, Xb, Xl, Xc⟩ := X
      simp only at RC KNX
      go_enter Try.func11, Try.ntmps11
      go_wp2_with fail
      generalize w.alloc (.cells #[.slice oe le ce, .slice os le cs, .slice od ld cd] 26) = W at *
      refine (HB.out _).mono ?_
      rintro r w1 ⟨rfl, b1⟩
      have N1 := hide (heap_below HN.out b1)
      have x0 : w1.cell? ⟨w.heap.size, 0, none⟩ = some (.slice oe le ce) := cell_of N1.out 0
      have x1 : w1.cell? ⟨w.heap.size, 1, none⟩ = some (.slice os le cs) := cell_of N1.out 1
      have x2 : w1.cell? ⟨w.heap.size, 2, none⟩ = some (.slice od ld cd) := cell_of N1.out 2
      have B1 := hide (btr B0.out b1)
      have L1 := hide (L0.out.below b1)
      clear b1
      go_wp2_with fail
      refine (KB.out _ L1.out).mono ?_
      rintro r w2 ⟨rfl, b2⟩
      have b3 := below_alloc w2 (.cells #[.int .i64 Yg, .int .i64 Yt, .int .i64 Yf, .bool Yb, .int .i64 Yl, .int .i64 Yc] 45)
      have N2 := hide (heap_below N1.out b2)
      have N3 := hide (heap_below N2.out b3)
      have B3 := hide (btr (btr B1.out b2) b3)
      have L3 := hide (L1.out.below (btr b2 b3))
      have hN2 := heap_lt N2.out
      clear b2 b3 x0 x1 x2
      have x0 : w2.cell? ⟨w.heap.size, 0, none⟩ = some (.slice oe le ce) := cell_of N2.out 0
      have x1 : w2.cell? ⟨w.heap.size, 1, none⟩ = some (.slice os le cs) := cell_of N2.out 1
      have x2 : w2.cell? ⟨w.heap.size, 2, none⟩ = some (.slice od ld cd) := cell_of N2.out 2
      go_wp2_with fail
      generalize w2.alloc (.cells #[.int .i64 Yg, .int .i64 Yt, .int .i64 Yf, .bool Yb, .int .i64 Yl, .int .i64 Yc] 45) = W3 at *
      refine (RC.out _ L3.out).mono ?_
      rintro r w4 ⟨rfl, b4⟩
      have b5 := below_alloc w4 (.cells #[.int .i64 Xg, .int .i64 Xt, .int .i64 Xf, .bool Xb, .int .i64 Xl, .int .i64 Xc] 45)
      have N4 := hide (heap_below N3.out b4)
      have L5 := hide (L3.out.below (btr b4 b5))
      have B5 := hide (btr B3.out (btr b4 b5))
      have hN4 := heap_lt N4.out
      clear b4 b5 x0 x1 x2
      have x0 : w4.cell? ⟨w.heap.size, 0, none⟩ = some (.slice oe le ce) := cell_of N4.out 0
      have x1 : w4.cell? ⟨w.heap.size, 1, none⟩ = some (.slice os le cs) := cell_of N4.out 1
      have x2 : w4.cell? ⟨w.heap.size, 2, none⟩ = some (.slice od ld cd) := cell_of N4.out 2
      go_wp2_with fail
      generalize w4.alloc (.cells #[.int .i64 Xg, .int .i64 Xt, .int .i64 Xf, .bool Xb, .int .i64 Xl, .int .i64 Xc] 45) = W5 at *
      refine (KNX.out _ L5.out).mono ?_
      rintro r w6 ⟨rfl, b6⟩
      have B6 := hide (btr B5.out b6)
      clear b6
      go_wp2_with fail
      go_ret2
      exact ⟨rfl, B6.out⟩

/-- a stamp of the reference -/
structure Tx where
  t : Int
  n : Int
  oa : Option Addr
  cap : Nat
  c : List Int
def TA (w : World) (oa : Option Addr) (l : List Tx) : Prop := GAt w oa 3 (fun cs x => cs = [.int .i64 x.t, .int .i64 x.n, .slice x.oa x.c.length x.cap] ∧ At w x.oa x.c) l
theorem TA.below {w w' : World} {oa : Option Addr} {l : List Tx} (h : TA w oa l) (b : Below w.heap.size w w') : TA w' oa l := GAt.below h b fun _ _ q => ⟨q.1, q.2.below b⟩
theorem TA.read {w : World} {oa : Option Addr} {l : List Tx} (h : TA w oa l) {k : Nat} {x : Tx} (hx : l[k]? = some x) : ∃ b off, oa = some ⟨b, off, none⟩ ∧ w.cell? ⟨b, off + k * 3, none⟩ = some (.int .i64 x.t) ∧ w.cell? ⟨b, off + k * 3 + 1, none⟩ = some (.int .i64 x.n) ∧ w.cell? ⟨b, off + k * 3 + 2, none⟩ = some (.slice x.oa x.c.length x.cap) ∧ At w x.oa x.c := by
  obtain ⟨b, off, cs, e, -, hc, rfl, q⟩ := h k x hx
  exact ⟨b, off, e, hc 0 (by decide), hc 1 (by decide), hc 2 (by decide), q⟩
/-- the reference's log -/
structure RG (w : World) (oe os od : Option Addr) (es : List Ex) (ts : List Tx) (rs : List Rd) : Prop where
  ev : EA w oe es
  st : TA w os ts
  rc : RO w od rs
theorem RG.below {w w' : World} {oe os od : Option Addr} {es : List Ex} {ts : List Tx} {rs : List Rd} (h : RG w oe os od es ts rs) (b : Below w.heap.size w w') : RG w' oe os od es ts rs := ⟨h.ev.below b, h.st.below b, h.rc.below b⟩
/-- where g's first record stands; -1: nowhere -/
def oi (m : List Rd) (g : Int) : Int := match m.findIdx? (fun x => x.g == g) with | some i => (i : Int) | none => -1
theorem oi_none {m : List Rd} {g : Int} (h : ∀ (j : Nat) (z : Rd), m[j]? = some z → (z.g == g) = false) : oi m g = -1 := by
  have : m.findIdx? (fun x => x.g == g) = none := by
    rw [List.findIdx?_eq_none_iff]
    intro x hx
    obtain ⟨j, hj, rfl⟩ := List.getElem_of_mem hx
    exact h j _ (List.getElem?_eq_getElem hj)
  simp [oi, this]
theorem oi_some {m : List Rd} {g : Int} {k : Nat} {x : Rd} (hk : m[k]? = some x) (h : ∀ (j : Nat) (z : Rd), j < k → m[j]? = some z → (z.g == g) = false) (hp : (x.g == g) = true) : oi m g = (k : Int) := by
  obtain ⟨hkl, e⟩ := List.getElem?_eq_some_iff.1 hk
  have : m.findIdx? (fun x => x.g == g) = some k := by
    rw [List.findIdx?_eq_some_iff_getElem]
    refine ⟨hkl, by rw [e]; exact hp, fun j hj => ?_⟩
    simp [h j _ hj (List.getElem?_eq_getElem (by omega))]
  simp [oi, this]
/-- by the first record itself -/
theorem oi_fd (m : List Rd) (g : Int) : (fd m g = none ∧ oi m g = -1) ∨ ∃ (k : Nat) (x : Rd), fd m g = some x ∧ oi m g = (k : Int) ∧ m[k]? = some x ∧ k < m.length := by
  cases hf : m.findIdx? (fun x => x.g == g) with
  | none =>
    rw [List.findIdx?_eq_none_iff] at hf
    refine .inl ⟨?_, oi_none fun j z hz => hf z (List.mem_of_getElem? hz)⟩
    exact fd_out fun j z hz => hf z (List.mem_of_getElem? hz)
  | some i =>
    obtain ⟨h1, h2, h3⟩ := List.findIdx?_eq_some_iff_getElem.1 hf
    have hi : m[i]? = some m[i] := List.getElem?_eq_getElem h1
    have hlt : ∀ (j : Nat) (z : Rd), j < i → m[j]? = some z → (z.g == g) = false := fun j z hj hz => by
      have := h3 j hj
      rw [(List.getElem?_eq_some_iff.1 hz).2] at this
      simpa using this
    exact .inr ⟨i, m[i], fd_at hi hlt h2, oi_some hi hlt h2, hi, h1⟩
set_option maxRecDepth 100000 in
set_option maxHeartbeats 3200000 in
theorem rof_any (oe os od : Option Addr) (le ce ls cs cd : Nat) (rs : List Rd) (g : Int) (w : World) (h : RO w od rs) (hl : rs.length ≤ 100000) :
    Calls Try.prog 14 #[.agg #[.slice oe le ce, .slice os ls cs, .slice od rs.length cd], .int .i64 g] w fun r w' => r = .returned (.int .i64 (oi rs g)) ∧ Below w.heap.size w w' := by
  have FA := hide (fun (k : Nat) (x : Rd) => @oi_some rs g k x)
  have FO := hide (@oi_none rs g)
  have HR := hide h
  obtain ⟨ld, hld⟩ : ∃ ld, rs.length = ld := ⟨_, rfl⟩
  have HN := hide hld
  rw [hld] at hl ⊢
  have B0 := hide (below_alloc w (.cells #[.slice oe le ce, .slice os ls cs, .slice od ld cd] 37))
  generalize oi rs g = O at FA FO ⊢
  clear h hld
  go_enter Try.func14, Try.ntmps14
  go_wp2_with fail
  generalize w.alloc (.cells #[.slice oe le ce, .slice os ls cs, .slice od ld cd] 37) = W at B0 ⊢
  go_loopw [10] (fun i wr => ∃ k : Nat, k ≤ ld ∧ i = .int .i64 k ∧ (∀ (j : Nat) (z : Rd), j < k → rs[j]? = some z → (z.g == g) = false) ∧ Below w.heap.size w wr) (fun i _ => ld - (intOf i).toNat)
  case atStart => exact ⟨0, Nat.zero_le _, rfl, fun j _ hj => absurd hj (Nat.not_lt_zero _), B0.out⟩
  case round =>
    clear B0
    obtain ⟨k, hk, rfl, hall, bl⟩ := hrel
    have HL := hide hall
    have BL := hide bl
    clear hall bl
    by_cases hlt : k < ld
    · have hlt' : (k : Int) < (ld : Int) := by omega
      obtain ⟨x, hx⟩ : ∃ x, rs[k]? = some x := ⟨_, List.getElem?_eq_getElem (by rw [HN.out]; exact hlt)⟩
      obtain ⟨b, off, rfl, c0, c1, c2, c3, c4, c5⟩ := (HR.out.below BL.out).read hx
      have HX := hide hx
      have B2 := hide (btr BL.out (below_alloc wr (.cells #[.int .i64 x.g, .int .i64 x.t, .int .i64 x.f, .bool x.b, .int .i64 x.l, .int .i64 x.c] 73)))
      clear hx
      cases hp : (x.g == g)
      · have HP := hide hp
        go_wp2_with fail
        go_roundw
        case rel => exact ⟨k + 1, by omega, by go_num, fun j y hj hy => by
          by_cases e : j = k
          · rw [e, HX.out] at hy; cases hy; exact HP.out
          · exact HL.out j y (by omega) hy, B2.out⟩
        case measure => simp [intOf]; omega
      · have hO := FA.out k x HX.out HL.out hp
        subst hO
        go_wp2_with fail
        go_ret
        exact ⟨rfl, B2.out⟩
    · have hlt' : ¬ ((k : Int) < (ld : Int)) := by omega
      have hO := FO.out fun j z hz => HL.out j z (by have := (List.getElem?_eq_some_iff.1 hz).1; rw [HN.out] at this; omega) hz
      subst hO
      go_wp2_with fail
      go_ret
      exact ⟨rfl, BL.out⟩
end Qu
end Go.Proofs.Ytgfnafipfbajcaa
