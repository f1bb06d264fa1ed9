/- A log in memory: events, stamps, records; package query's number, known, Record, has. -/
import Derived.Test.YtgfnafipfbajcaaUa3
import Derived.Test.YtgfnafipfbajcaaBu
namespace Go.Proofs.Ytgfnafipfbajcaa
open Go.ChangeShapes Go.WideShapes Go.ChangeAt Go.RowKit
namespace Qu
open Ba Rk

/-- an event -/
structure Ex where
  k : Int
  g : Int
  c : Int
  a : Int
  v : Int
  m : Int
  s : Bool
  o : Bool
def ecl (x : Ex) : List Value := [.int .i64 x.k, .int .i64 x.g, .int .i64 x.c, .int .i64 x.a, .int .i64 x.v, .int .i64 x.m, .bool x.s, .bool x.o]
/-- a stamp: its epoch, and what it knew -/
structure Sx where
  e : Int
  oa : Option Addr
  cap : Nat
  c : List Int
/-- the rows of a log -/
def EA (w : World) (oa : Option Addr) (l : List Ex) : Prop := GAt w oa 8 (fun cs x => cs = ecl x) l
def RO (w : World) (oa : Option Addr) (l : List Rd) : Prop := GAt w oa 6 (fun cs x => cs = cl x) l
def SA (w : World) (oa : Option Addr) (l : List Sx) : Prop := GAt w oa 2 (fun cs x => cs = [.int .u64 x.e, .slice x.oa x.c.length x.cap] ∧ At w x.oa x.c ∧ x.c.length ≤ maxLen ∧ 0 ≤ x.e ∧ x.e ≤ 18446744073709551615) l
theorem EA.below {w w' : World} {oa : Option Addr} {l : List Ex} (h : EA w oa l) (b : Below w.heap.size w w') : EA w' oa l := GAt.below h b fun _ _ q => q
theorem RO.below {w w' : World} {oa : Option Addr} {l : List Rd} (h : RO w oa l) (b : Below w.heap.size w w') : RO w' oa l := GAt.below h b fun _ _ q => q
theorem SA.below {w w' : World} {oa : Option Addr} {l : List Sx} (h : SA w oa l) (b : Below w.heap.size w w') : SA w' oa l := GAt.below h b fun _ _ q => ⟨q.1, q.2.1.below b, q.2.2⟩
theorem EA.read {w : World} {oa : Option Addr} {l : List Ex} (h : EA w oa l) {k : Nat} {x : Ex} (hx : l[k]? = some x) : ∃ b off, oa = some ⟨b, off, none⟩ ∧ w.cell? ⟨b, off + k * 8, none⟩ = some (.int .i64 x.k) ∧ w.cell? ⟨b, off + k * 8 + 1, none⟩ = some (.int .i64 x.g) ∧ w.cell? ⟨b, off + k * 8 + 2, none⟩ = some (.int .i64 x.c) ∧ w.cell? ⟨b, off + k * 8 + 3, none⟩ = some (.int .i64 x.a) ∧ w.cell? ⟨b, off + k * 8 + 4, none⟩ = some (.int .i64 x.v) ∧ w.cell? ⟨b, off + k * 8 + 5, none⟩ = some (.int .i64 x.m) ∧ w.cell? ⟨b, off + k * 8 + 6, none⟩ = some (.bool x.s) ∧ w.cell? ⟨b, off + k * 8 + 7, none⟩ = some (.bool x.o) := by
  obtain ⟨b, off, cs, e, -, hc, rfl⟩ := h k x hx
  exact ⟨b, off, e, hc 0 (by decide), hc 1 (by decide), hc 2 (by decide), hc 3 (by decide), hc 4 (by decide), hc 5 (by decide), hc 6 (by decide), hc 7 (by decide)⟩
theorem RO.read {w : World} {oa : Option Addr} {l : List Rd} (h : RO w oa l) {k : Nat} {x : Rd} (hx : l[k]? = some x) : ∃ b off, oa = some ⟨b, off, none⟩ ∧ w.cell? ⟨b, off + k * 6, none⟩ = some (.int .i64 x.g) ∧ w.cell? ⟨b, off + k * 6 + 1, none⟩ = some (.int .i64 x.t) ∧ w.cell? ⟨b, off + k * 6 + 2, none⟩ = some (.int .i64 x.f) ∧ w.cell? ⟨b, off + k * 6 + 3, none⟩ = some (.bool x.b) ∧ w.cell? ⟨b, off + k * 6 + 4, none⟩ = some (.int .i64 x.l) ∧ w.cell? ⟨b, off + k * 6 + 5, none⟩ = some (.int .i64 x.c) := by
  obtain ⟨b, off, cs, e, -, hc, rfl⟩ := h k x hx
  exact ⟨b, off, e, hc 0 (by decide), hc 1 (by decide), hc 2 (by decide), hc 3 (by decide), hc 4 (by decide), hc 5 (by decide)⟩
theorem SA.read {w : World} {oa : Option Addr} {l : List Sx} (h : SA w oa l) {k : Nat} {x : Sx} (hx : l[k]? = some x) : ∃ b off, oa = some ⟨b, off, none⟩ ∧ w.cell? ⟨b, off + k * 2, none⟩ = some (.int .u64 x.e) ∧ w.cell? ⟨b, off + k * 2 + 1, none⟩ = some (.slice x.oa x.c.length x.cap) ∧ At w x.oa x.c ∧ x.c.length ≤ maxLen ∧ 0 ≤ x.e ∧ x.e ≤ 18446744073709551615 := by
  obtain ⟨b, off, cs, e, -, hc, rfl, q⟩ := h k x hx
  exact ⟨b, off, e, hc 0 (by decide), hc 1 (by decide), q⟩
/-- a log -/
structure LG (w : World) (oe os od : Option Addr) (es : List Ex) (ss : List Sx) (rs : List Rd) : Prop where
  ev : EA w oe es
  st : SA w os ss
  rc : RO w od rs
theorem LG.below {w w' : World} {oe os od : Option Addr} {es : List Ex} {ss : List Sx} {rs : List Rd} (h : LG w oe os od es ss rs) (b : Below w.heap.size w w') : LG w' oe os od es ss rs := ⟨h.ev.below b, h.st.below b, h.rc.below b⟩
theorem cellB {w w' : World} {a : Addr} {v : Value} (h : w.cell? a = some v) (b : Below w.heap.size w w') : w'.cell? a = some v := (b.cell (World.block_lt_of_cell? w _ h)).trans h

/-- the number at a tid -/
def nm (l : List Int) (t : Int) : Int := if t < 0 ∨ (l.length : Int) ≤ t then 0 else nth l t.toNat
theorem number_any (oa : Option Addr) (l : List Int) (cap : Nat) (t : Int) (w : World) (h : At w oa l) :
    Calls Try.prog 27 #[.slice oa l.length cap, .int .i64 t] w fun r w' => r = .returned (.int .i64 (nm l t)) ∧ w' = w := by
  unfold nm
  by_cases h1 : t < 0
  · rw [if_pos (.inl h1)]
    go_enter Try.func27, Try.ntmps27
    go_wp2_with fail
    go_ret
    exact ⟨rfl, rfl⟩
  by_cases h2 : (l.length : Int) ≤ t
  · rw [if_pos (.inr h2)]
    go_enter Try.func27, Try.ntmps27
    go_wp2_with fail
    go_ret
    exact ⟨rfl, rfl⟩
  · rw [if_neg (by omega)]
    obtain ⟨k, rfl⟩ : ∃ k : Nat, t = (k : Int) := ⟨t.toNat, by omega⟩
    have hk : k < l.length := by omega
    have hk' : (k : Int) < (l.length : Int) := by omega
    obtain ⟨b, off, rfl, c0⟩ := h k hk
    rw [Int.toNat_natCast]
    generalize nth l k = z at c0
    clear h
    go_enter Try.func27, Try.ntmps27
    go_wp2_with fail
    go_ret
    exact ⟨rfl, rfl⟩
/-- up to which clock -/
def kw (r : Rd) (b : Int) (l : List Int) : Int := if r.b && decide (r.l < b) then r.c else if b ≤ r.f then 0 else nm l r.t
set_option maxRecDepth 100000 in
set_option maxHeartbeats 1600000 in
theorem known_any (oe os od : Option Addr) (le ce cs ld cd : Nat) (ss : List Sx) (b : Nat) (y : Sx) (x : Rd) (w : World) (h : SA w os ss) (hb : ss[b]? = some y) :
    Calls Try.prog 20 #[.agg #[.slice oe le ce, .slice os ss.length cs, .slice od ld cd], .int .i64 (b : Int), rv x] w fun r w' => r = .returned (.int .i64 (kw x (b : Int) y.c)) ∧ Below w.heap.size w w' := by
  obtain ⟨ls, hls⟩ : ∃ ls, ss.length = ls := ⟨_, rfl⟩
  have hbl := (List.getElem?_eq_some_iff.1 hb).1
  rw [hls] at hbl ⊢
  have b1 := below_alloc w (.cells #[.slice oe le ce, .slice os ls cs, .slice od ld cd] 26)
  have h1 := heap_new w (.cells #[.slice oe le ce, .slice os ls cs, .slice od ld cd] 26)
  have b2 := below_alloc (w.alloc (.cells #[.slice oe le ce, .slice os ls cs, .slice od ld cd] 26)) (.cells #[.int .i64 x.g, .int .i64 x.t, .int .i64 x.f, .bool x.b, .int .i64 x.l, .int .i64 x.c] 45)
  have h2 := heap_new (w.alloc (.cells #[.slice oe le ce, .slice os ls cs, .slice od ld cd] 26)) (.cells #[.int .i64 x.g, .int .i64 x.t, .int .i64 x.f, .bool x.b, .int .i64 x.l, .int .i64 x.c] 45)
  have h1' := heap_below h1 b2
  rw [World.size_alloc] at h2
  have HS := hide (h.below (btr b1 b2))
  have BB := hide (btr b1 b2)
  have H1 := hide h1'
  have H2 := hide h2
  unfold kw
  unfold rv
  obtain ⟨xg, xt, xf, xb, xl, xc⟩ := x
  simp only at *
  clear h b1 b2 h1 h1' h2 hls
  cases e1 : (xb && decide (xl < (b : Int)))
  · rw [if_neg (by simp)]
    by_cases e2 : (b : Int) ≤ xf
    · rw [if_pos e2]
      cases xb
      · go_enter Try.func20, Try.ntmps20
        go_wp2_with fail
        go_ret
        exact ⟨rfl, BB.out⟩
      · have e3 : decide (xl < (b : Int)) = false := by simpa using e1
        go_enter Try.func20, Try.ntmps20
        go_wp2_with fail
        go_ret
        exact ⟨rfl, BB.out⟩
    · rw [if_neg e2]
      have hbi : (b : Int) < (ls : Int) := by omega
      obtain ⟨sb, so, rfl, s0, s1, sa, sl, -⟩ := HS.out.read hb
      have NU := hide fun u (hu : At u y.oa y.c) => number_any y.oa y.c y.cap xt u hu
      have SAt := hide sa
      generalize nm y.c xt = z at NU ⊢
      generalize y.c.length = n at *
      generalize y.oa = ya at *
      generalize y.cap = yc at *
      clear hb sa sl
      have e4 : decide ((b : Int) ≤ xf) = false := decide_eq_false e2
      cases xb
      · go_enter Try.func20, Try.ntmps20
        go_wp2_with fail
        generalize (w.alloc (.cells #[.slice oe le ce, .slice (some ⟨sb, so, none⟩) ls cs, .slice od ld cd] 26)).alloc (.cells #[.int .i64 xg, .int .i64 xt, .int .i64 xf, .bool false, .int .i64 xl, .int .i64 xc] 45) = W at *
        have y1 : W.cell? ⟨w.heap.size, 1, none⟩ = some (.slice (some ⟨sb, so, none⟩) ls cs) := cell_of H1.out 1
        have y2 : W.cell? ⟨w.heap.size + 1, 1, none⟩ = some (.int .i64 xt) := cell_of H2.out 1
        go_quiet ((go_at_call 27; exact Calls.quiet_of_same (NU.out _ (SAt.out.below (bdrew _ _)))))
        go_wp2_with fail
        go_ret
        exact ⟨rfl, btr BB.out (bdrew _ _)⟩
      · have e3 : decide (xl < (b : Int)) = false := by simpa using e1
        go_enter Try.func20, Try.ntmps20
        go_wp2_with fail
        generalize (w.alloc (.cells #[.slice oe le ce, .slice (some ⟨sb, so, none⟩) ls cs, .slice od ld cd] 26)).alloc (.cells #[.int .i64 xg, .int .i64 xt, .int .i64 xf, .bool true, .int .i64 xl, .int .i64 xc] 45) = W at *
        have y1 : W.cell? ⟨w.heap.size, 1, none⟩ = some (.slice (some ⟨sb, so, none⟩) ls cs) := cell_of H1.out 1
        have y2 : W.cell? ⟨w.heap.size + 1, 1, none⟩ = some (.int .i64 xt) := cell_of H2.out 1
        go_quiet ((go_at_call 27; exact Calls.quiet_of_same (NU.out _ (SAt.out.below (bdrew _ _)))))
        go_wp2_with fail
        go_ret
        exact ⟨rfl, btr BB.out (bdrew _ _)⟩
  · rw [if_pos rfl]
    rw [Bool.and_eq_true] at e1
    obtain ⟨rfl, e3⟩ := e1
    go_enter Try.func20, Try.ntmps20
    go_wp2_with fail
    go_ret
    exact ⟨rfl, BB.out⟩
/-- the first record of g -/
theorem fd_at {rs : List Rd} {g : Int} {k : Nat} {x : Rd} (hx : rs[k]? = some x) (h : ∀ (j : Nat) (z : Rd), j < k → rs[j]? = some z → (z.g == g) = false) (hp : (x.g == g) = true) : fd rs g = some x := by
  unfold fd
  induction rs generalizing k with
  | nil => simp at hx
  | cons y l ih =>
    cases k with
    | zero => simp at hx; subst hx; simp [hp]
    | succ k =>
      have h0 := h 0 y (by omega) (by simp)
      rw [List.find?_cons, h0]
      exact ih (by simpa using hx) (fun j z hj hz => h (j + 1) z (by omega) (by simpa using hz))
theorem fd_out {rs : List Rd} {g : Int} (h : ∀ (j : Nat) (z : Rd), rs[j]? = some z → (z.g == g) = false) : fd rs g = none := by
  unfold fd
  rw [List.find?_eq_none]
  intro x hx
  obtain ⟨j, hj, rfl⟩ := List.getElem_of_mem hx
  simpa using h j _ (List.getElem?_eq_getElem hj)
theorem six_set {w : World} {b : Nat} {x0 x1 x2 x3 x4 x5 : Value} {t : TypeId} (h : w.heap[b]? = some (.cells #[x0, x1, x2, x3, x4, x5] t (0, 0))) (u0 u1 u2 u3 u4 u5 : Value) : ((((((w.setCell ⟨b, 0, none⟩ u0).setCell ⟨b, 1, none⟩ u1).setCell ⟨b, 2, none⟩ u2).setCell ⟨b, 3, none⟩ u3).setCell ⟨b, 4, none⟩ u4).setCell ⟨b, 5, none⟩ u5).heap[b]? = some (.cells #[u0, u1, u2, u3, u4, u5] t (0, 0)) := by
  rw [Ba.heap_setCell_same (Ba.heap_setCell_same (Ba.heap_setCell_same (Ba.heap_setCell_same (Ba.heap_setCell_same (Ba.heap_setCell_same h u0) u1) u2) u3) u4) u5]
  rfl
theorem below_six {w a : World} {Z : Nat} (h : Below w.heap.size w a) (hZ : w.heap.size ≤ Z) (u0 u1 u2 u3 u4 u5 : Value) : Below w.heap.size w ((((((a.setCell ⟨Z, 0, none⟩ u0).setCell ⟨Z, 1, none⟩ u1).setCell ⟨Z, 2, none⟩ u2).setCell ⟨Z, 3, none⟩ u3).setCell ⟨Z, 4, none⟩ u4).setCell ⟨Z, 5, none⟩ u5) :=
  (((((h.setCell hZ _).setCell hZ _).setCell hZ _).setCell hZ _).setCell hZ _).setCell hZ _
def fdR (o : Option Rd) : Rd := o.getD zr
/-- Record's own variable, and the log's header, in a world -/
structure RW (w wr : World) (oe os od : Option Addr) (le ce ls cs ld cd : Nat) : Prop where
  h1 : wr.heap[w.heap.size]? = some (.cells #[.slice oe le ce, .slice os ls cs, .slice od ld cd] 26 (0, 0))
  h2 : wr.heap[w.heap.size + 1]? = some (.cells #[.int .i64 0, .int .i64 0, .int .i64 0, .bool false, .int .i64 0, .int .i64 0] 45 (0, 0))
  b : Below w.heap.size w wr
theorem RW.below {w a b : World} {oe os od : Option Addr} {le ce ls cs ld cd : Nat} (h : RW w a oe os od le ce ls cs ld cd) (k : Below a.heap.size a b) : RW w b oe os od le ce ls cs ld cd := ⟨heap_below h.h1 k, heap_below h.h2 k, btr h.b k⟩
set_option maxRecDepth 100000 in
set_option maxHeartbeats 3200000 in
theorem record_any (oe os od : Option Addr) (le ce ls cs cd : Nat) (rs : List Rd) (g : Int) (w : World) (h : RO w od rs) (hl : rs.length ≤ 100000) :
    Calls Try.prog 13 #[.agg #[.slice oe le ce, .slice os ls cs, .slice od rs.length cd], .int .i64 g] w fun r w' => r = .returned (.tuple #[rv (fdR (fd rs g)), .bool (fd rs g).isSome]) ∧ Below w.heap.size w w' := by
  have FA := hide (fun (k : Nat) (x : Rd) => @fd_at rs g k x)
  have FO := hide (@fd_out rs g)
  have HR := hide h
  obtain ⟨ld, hld⟩ : ∃ ld, rs.length = ld := ⟨_, rfl⟩
  have HN := hide hld
  rw [hld] at hl ⊢
  have R0 : Hid (RW w ((w.alloc (.cells #[.slice oe le ce, .slice os ls cs, .slice od ld cd] 26)).alloc (.cells #[.int .i64 0, .int .i64 0, .int .i64 0, .bool false, .int .i64 0, .int .i64 0] 45)) oe os od le ce ls cs ld cd) := by
    have b2 := below_alloc (w.alloc (.cells #[.slice oe le ce, .slice os ls cs, .slice od ld cd] 26)) (.cells #[.int .i64 0, .int .i64 0, .int .i64 0, .bool false, .int .i64 0, .int .i64 0] 45)
    have h2 := heap_new (w.alloc (.cells #[.slice oe le ce, .slice os ls cs, .slice od ld cd] 26)) (.cells #[.int .i64 0, .int .i64 0, .int .i64 0, .bool false, .int .i64 0, .int .i64 0] 45)
    rw [World.size_alloc] at h2
    exact ⟨heap_below (heap_new w (.cells #[.slice oe le ce, .slice os ls cs, .slice od ld cd] 26)) b2, h2, btr (below_alloc w _) b2⟩
  generalize fd rs g = O at FA FO ⊢
  clear h hld
  go_enter Try.func13, Try.ntmps13
  go_wp2_with fail
  generalize (w.alloc (.cells #[.slice oe le ce, .slice os ls cs, .slice od ld cd] 26)).alloc (.cells #[.int .i64 0, .int .i64 0, .int .i64 0, .bool false, .int .i64 0, .int .i64 0] 45) = W at R0 ⊢
  go_loopw [11] (fun i wr => ∃ k : Nat, k ≤ ld ∧ i = .int .i64 k ∧ (∀ (j : Nat) (z : Rd), j < k → rs[j]? = some z → (z.g == g) = false) ∧ RW w wr oe os od le ce ls cs ld cd) (fun i _ => ld - (intOf i).toNat)
  case atStart => exact ⟨0, Nat.zero_le _, rfl, fun j _ hj => absurd hj (Nat.not_lt_zero _), R0.out⟩
  case round =>
    clear R0
    obtain ⟨k, hk, rfl, hall, rw0⟩ := hrel
    have HL := hide hall
    have RR := hide rw0
    clear hall rw0
    by_cases hlt : k < ld
    · have hlt' : (k : Int) < (ld : Int) := by omega
      obtain ⟨x, hx⟩ : ∃ x, rs[k]? = some x := ⟨_, List.getElem?_eq_getElem (by rw [HN.out]; exact hlt)⟩
      obtain ⟨b, off, rfl, c0, c1, c2, c3, c4, c5⟩ := (HR.out.below RR.out.b).read hx
      have HX := hide hx
      have R2 := hide (RR.out.below (below_alloc wr (.cells #[.int .i64 x.g, .int .i64 x.t, .int .i64 x.f, .bool x.b, .int .i64 x.l, .int .i64 x.c] 45)))
      have hlw := heap_lt RR.out.h2
      clear hx
      cases hp : (x.g == g)
      · have HP := hide hp
        go_wp2_with fail
        go_roundw
        case rel => exact ⟨k + 1, by omega, by go_num, fun j y hj hy => by
          by_cases e : j = k
          · rw [e, HX.out] at hy; cases hy; exact HP.out
          · exact HL.out j y (by omega) hy, R2.out⟩
        case measure => simp [intOf]; omega
      · have hO := FA.out k x HX.out HL.out hp
        subst hO
        obtain ⟨xg, xt, xf, xb, xl, xc⟩ := x
        simp only at *
        have Z1 := hide RR.out.h2
        have y0 := frozen_of Z1.out 0
        have y1 := frozen_of Z1.out 1
        have y2 := frozen_of Z1.out 2
        have y3 := frozen_of Z1.out 3
        have y4 := frozen_of Z1.out 4
        have y5 := frozen_of Z1.out 5
        have z0 := cell_of Z1.out 0
        have z1 := cell_of Z1.out 1
        have z2 := cell_of Z1.out 2
        have z3 := cell_of Z1.out 3
        have z4 := cell_of Z1.out 4
        have z5 := cell_of Z1.out 5
        simp at z0 z1 z2 z3 z4 z5
        go_wp2_with fail
        exact bodyPost_ret (results_row2 Try.results13 _ _ _ _ _ rfl rfl (loadVar_r (heap_below (six_set Z1.out _ _ _ _ _ _) (below_alloc _ _)) rfl)) rfl ⟨rfl, btr (below_six RR.out.b (by omega) _ _ _ _ _ _) (below_alloc _ _)⟩
    · have hlt' : ¬ ((k : Int) < (ld : Int)) := by omega
      have hO := FO.out fun j z hz => HL.out j z (by have := (List.getElem?_eq_some_iff.1 hz).1; rw [HN.out] at this; omega) hz
      subst hO
      have Z2 := hide RR.out.h2
      have y0 := frozen_of Z2.out 0
      have y1 := frozen_of Z2.out 1
      have y2 := frozen_of Z2.out 2
      have y3 := frozen_of Z2.out 3
      have y4 := frozen_of Z2.out 4
      have y5 := frozen_of Z2.out 5
      have z0 := cell_of Z2.out 0
      have z1 := cell_of Z2.out 1
      have z2 := cell_of Z2.out 2
      have z3 := cell_of Z2.out 3
      have z4 := cell_of Z2.out 4
      have z5 := cell_of Z2.out 5
      simp at z0 z1 z2 z3 z4 z5
      go_wp2_with fail
      exact bodyPost_ret (results_row2 Try.results13 _ _ _ _ _ rfl rfl (loadVar_r (six_set Z2.out _ _ _ _ _ _) rfl)) rfl ⟨rfl, below_six RR.out.b (by omega) _ _ _ _ _ _⟩
/-- is there an event at a place, and a stamp of each? -/
def hsE (le ls : Nat) (a : Int) : Bool := (ls : Int) == (le : Int) && (decide (0 ≤ a) && decide (a < (le : Int)))
theorem has_any (oe os od : Option Addr) (le ce ls cs ld cd : Nat) (a : Int) (w : World) :
    Calls Try.prog 17 #[.agg #[.slice oe le ce, .slice os ls cs, .slice od ld cd], .int .i64 a] w fun r w' => r = .returned (.bool (hsE le ls a)) ∧ Below w.heap.size w w' := by
  unfold hsE
  cases h1 : ((ls : Int) == (le : Int))
  · go_enter Try.func17, Try.ntmps17
    go_wp2_with fail
    go_ret
    exact ⟨rfl, below_alloc _ _⟩
  cases h2 : decide (0 ≤ a)
  · go_enter Try.func17, Try.ntmps17
    go_wp2_with fail
    go_ret
    exact ⟨rfl, below_alloc _ _⟩
  · go_enter Try.func17, Try.ntmps17
    go_wp2_with fail
    go_ret
    exact ⟨ret_bool (by simp), below_alloc _ _⟩
end Qu
end Go.Proofs.Ytgfnafipfbajcaa
