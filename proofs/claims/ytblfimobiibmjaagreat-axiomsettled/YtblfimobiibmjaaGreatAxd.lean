import Derived.Test.YtblfimobiibmjaaGreatZjAh19
import Derived.Deep.QuietTactic
import Derived.BigQuiet
namespace Go.Proofs.YtblfimobiibmjaaGreat
open Go.ChangeShapes Go.WideShapes Go.ChangeAt Go.RowKit
namespace Ax
open En Gu Eg Ba
def rfi (o : Option Nat) : Int := match o with
 | some a => (a : Int)
 | none => -1
theorem tr_base {w : World} {N N' G : Nat} {oa : Option Addr} {l : List Ev} (h : TR w N G oa l) (hn : N' ≤ N) : TR w N' G oa l := by
 obtain ⟨⟨v, bs, x⟩, e⟩ := h
 exact ⟨⟨v, bs, rx_base x hn⟩, e⟩
set_option maxHeartbeats 1600000 in
theorem rtells_any (e : Ev) (w : World) : Calls Tryz.prog 54 #[evv e] w fun r w' => r = .returned (.bool (tl e)) ∧ Below w.heap.size w w' := by
 unfold evv evc tl
 obtain ⟨k, g, c, a, v, m, s, o⟩ := e
 simp only
 have X0 := hide (heap_new w (.cells #[.int .i64 k, .int .i64 g, .int .i64 c, .int .i64 a, .int .i64 v, .int .i64 m, .bool s, .bool o] 50))
 have BX := hide (below_alloc w (.cells #[.int .i64 k, .int .i64 g, .int .i64 c, .int .i64 a, .int .i64 v, .int .i64 m, .bool s, .bool o] 50))
 have s0 := cell_of X0.out 0
 simp at s0
 by_cases h1 : k = 1
 ·have d : (k == 1) = true := by simp [h1]
  have r1 : decide (k = 1) = true := by simp [h1]
  rw [r1, Bool.true_or]
  clear h1 r1
  go_enter Tryz.func54, Tryz.ntmps54
  go_wp2_with fail
  go_ret
  exact ⟨rfl, BX.out⟩
 ·have d : (k == 1) = false := by simp [h1]
  have r1 : decide (k = 1) = false := by simp [h1]
  rw [r1, Bool.false_or]
  by_cases h3 : 3 ≤ k
  ·have r2 : decide (3 ≤ k) = true := by simp [h3]
   rw [r2, Bool.true_and]
   clear h1 r1 r2
   go_enter Tryz.func54, Tryz.ntmps54
   go_wp2_with fail
   go_ret
   exact ⟨rfl, BX.out⟩
  ·have r2 : decide (3 ≤ k) = false := by simp; omega
   rw [r2, Bool.false_and]
   clear h1 r1 r2
   go_enter Tryz.func54, Tryz.ntmps54
   go_wp2_with fail
   go_ret
   exact ⟨rfl, BX.out⟩
set_option maxRecDepth 100000 in
set_option maxHeartbeats 6400000 in
theorem rnum_any (w : World) (N G : Nat) (oa : Option Addr) (l : List Ev) (c i : Nat) (T : TR w N G oa l) (hl : l.length ≤ 100) (hi : i < l.length) :
 Calls Tryz.prog 25 #[(.agg #[.slice oa l.length c, .pointer (some ⟨G, 0, none⟩)]), .int .i64 (i : Int)] w fun r w' => r = .returned (.int .i64 (num l i (gof l i) : Int)) ∧ Below w.heap.size w w' := by
 obtain ⟨y, hy⟩ := get_lt hi
 obtain ⟨b1, o1, rfl, -⟩ := T.es i y hy
 rw [gof_at hy]
 obtain ⟨g, hg⟩ : ∃ g, y.g = g := ⟨_, rfl⟩
 have HE := hide T.es
 have P1 := hide (T.es.read hy).2.1
 rw [hg] at P1 ⊢
 obtain ⟨n, hn⟩ : ∃ n, l.length = n := ⟨_, rfl⟩
 have HN := hide hn
 rw [hn] at hl hi ⊢
 have BX := hide (below_alloc w (.cells #[.slice (some ⟨b1, o1, none⟩) n c, .pointer (some ⟨G, 0, none⟩)] 44))
 have X0 := hide (heap_new w (.cells #[.slice (some ⟨b1, o1, none⟩) n c, .pointer (some ⟨G, 0, none⟩)] 44))
 obtain ⟨A, hAA⟩ : ∃ A, w.heap.size = A := ⟨_, rfl⟩
 have HAA := hide hAA
 have hi0 : (0 : Int) ≤ (i : Int) := by omega
 have hi1 : (i : Int) < (n : Int) := by omega
 rw [hAA] at X0
 generalize hW : w.alloc (.cells #[.slice (some ⟨b1, o1, none⟩) n c, .pointer (some ⟨G, 0, none⟩)] 44) = W at *
 clear T hy hn hg hAA
 go_enter Tryz.func25, Tryz.ntmps25
 go_wp2_with fail
 rw [HAA.out]
 clear hW
 go_loopw [5, 6] (fun nv iv wr => ∃ k : Nat, k ≤ i ∧ iv = .int .i64 (k : Int) ∧ nv = .int .i64 (num l k g : Int) ∧ Below W.heap.size W wr) (fun _ iv _ => i - (intOf iv).toNat)
 case atStart => exact ⟨0, by omega, rfl, by simp [num], Below.refl _ _⟩
 case round =>
  obtain ⟨k, hk, rfl, rfl, bl⟩ := hrel
  have BL := hide bl
  have NL := num_le l k g
  rw [HN.out] at NL
  by_cases hlt : k < i
  ·have hlt' : (k : Int) < (i : Int) := by omega
   have k0 : (0 : Int) ≤ (k : Int) := by omega
   have k1 : (k : Int) < (n : Int) := by omega
   obtain ⟨x, hx⟩ : ∃ x, l[k]? = some x := get_lt (by rw [HN.out]; omega)
   have EW := hide (HE.out.below (btr BX.out bl))
   obtain ⟨q0, q1, q2, q3, q4, q5, q6, q7⟩ := EW.out.read hx
   have p1 := Mx.cellB P1.out (btr BX.out bl)
   have t0 := cell_of (heap_below X0.out bl) 0
   simp at t0
   have NS := num_succ hx g
   obtain ⟨z, hz⟩ : ∃ z : Int, (num l k g : Int) = z := ⟨_, rfl⟩
   have hz1 : 0 ≤ z ∧ z ≤ 1000 := by omega
   have HZ := hide hz
   rw [hz]
   have TE := hide (fun u => rtells_any x u)
   unfold evv evc at TE
   by_cases hg : x.g = g
   ·have dg : (x.g == g) = true := by simp [hg]
    obtain ⟨q, hq⟩ : ∃ q, tl x = q := ⟨_, rfl⟩
    rw [hq] at TE
    have NX : Hid ((num l (k + 1) g : Int) = if q then z + 1 else z) := by
     show _ = _
     rw [NS, ← hz, ← hq]
     cases tl x <;> simp [hg]
    clear hx hz hq NS bl EW NL hlt
    rw [hg] at q1 TE
    have dgg : (g == g) = true := by simp
    clear hg dg
    go_wp2_with fail
    go_region_held3 (fun w' => w'.cell? ⟨A, 0, none⟩ = some (.slice (some ⟨b1, o1, none⟩) n c) ∧ w'.cell? ⟨b1, o1 + k * 8, none⟩ = some (.int .i64 x.k) ∧ w'.cell? ⟨b1, o1 + k * 8 + 1, none⟩ = some (.int .i64 g) ∧ w'.cell? ⟨b1, o1 + k * 8 + 2, none⟩ = some (.int .i64 x.c) ∧ w'.cell? ⟨b1, o1 + k * 8 + 3, none⟩ = some (.int .i64 x.a) ∧ w'.cell? ⟨b1, o1 + k * 8 + 4, none⟩ = some (.int .i64 x.v) ∧ w'.cell? ⟨b1, o1 + k * 8 + 5, none⟩ = some (.int .i64 x.m) ∧ w'.cell? ⟨b1, o1 + k * 8 + 6, none⟩ = some (.bool x.s) ∧ w'.cell? ⟨b1, o1 + k * 8 + 7, none⟩ = some (.bool x.o) ∧ w'.cell? ⟨b1, o1 + i * 8 + 1, none⟩ = some (.int .i64 g))
     (first | (go_keep; done) | (exact SS))
     (first | (go_at_call 54; refine (TE.out _).mono ?_; rintro r w6 ⟨rfl, b6⟩; have b7 := btr (bdrew1 wr) b6; have SS := And.intro (Mx.cellB t0 b7) (And.intro (Mx.cellB q0 b7) (And.intro (Mx.cellB q1 b7) (And.intro (Mx.cellB q2 b7) (And.intro (Mx.cellB q3 b7) (And.intro (Mx.cellB q4 b7) (And.intro (Mx.cellB q5 b7) (And.intro (Mx.cellB q6 b7) (And.intro (Mx.cellB q7 b7) (Mx.cellB p1 b7)))))))))))
    have B6 := hide (btr BL.out b7)
    have wz : IntKind.i64.wrap (z + 1) = z + 1 := by rw [IntKind.wrap_i64]; omega
    clear t0 q0 q1 q2 q3 q4 q5 q6 q7 p1 TE b6 b7 SS
    cases q with
    | false =>
      go_wp2_with fail
      go_roundw
      case measure => simp [intOf]; omega
      case rel => exact ⟨k + 1, by omega, by simp, by rw [NX.out]; simp, B6.out⟩
    | true =>
      go_wp2_with fail
      go_roundw
      case measure => simp [intOf]; omega
      case rel => exact ⟨k + 1, by omega, by simp, by rw [NX.out]; simp, B6.out⟩
   ·have dg : (x.g == g) = false := by simp [hg]
    have NX : Hid ((num l (k + 1) g : Int) = z) := by
     show _ = _
     rw [NS, ← hz, if_neg (fun h => hg h.1)]
     rfl
    clear hx hz NS bl EW NL hlt hg TE q0 q2 q3 q4 q5 q6 q7
    go_wp2_with fail
    go_quiet (fail)
    have B6 := hide (btr BL.out (bdrew wr nq))
    clear t0 q1 p1
    go_wp2_with fail
    go_roundw
    case measure => simp [intOf]; omega
    case rel => exact ⟨k + 1, by omega, by simp, by rw [NX.out], B6.out⟩
  ·obtain rfl : k = i := by omega
   clear bl hlt
   go_wp2_with fail
   go_ret
   exact ⟨rfl, btr BX.out BL.out⟩
set_option maxRecDepth 100000 in
set_option maxHeartbeats 6400000 in
theorem rkn_any (w : World) (N G : Nat) (oa : Option Addr) (l : List Ev) (c i : Nat) (g : Int) (T : TR w N G oa l) (hl : l.length ≤ 100) (hi : i < l.length) :
 Calls Tryz.prog 26 #[(.agg #[.slice oa l.length c, .pointer (some ⟨G, 0, none⟩)]), .int .i64 (i : Int), .int .i64 g] w fun r w' => r = .returned (.int .i64 (knF (hA l) l i g : Int)) ∧ Below w.heap.size w w' := by
 obtain ⟨y, hy⟩ := get_lt hi
 obtain ⟨b1, o1, rfl, -⟩ := T.es i y hy
 have GE := gof_at hy
 have HE := hide T.es
 have TT := hide T
 have P1 := hide (T.es.read hy).2.1
 have NU := hide (fun (k : Nat) (hk : k < l.length) (u : World) (bb : Below w.heap.size w u) => rnum_any u N G (some ⟨b1, o1, none⟩) l c k (T.below bb) hl hk)
 have HH := hide (fun (k : Nat) (hk : k < l.length) (u : World) (bb : Below w.heap.size w u) => (T.below bb).has hk hi)
 have NLE := hide (fun k g => num_le l k g)
 obtain ⟨n, hn⟩ : ∃ n, l.length = n := ⟨_, rfl⟩
 have HN := hide hn
 rw [hn] at hl hi NU HH NLE ⊢
 have BX := hide (below_alloc w (.cells #[.slice (some ⟨b1, o1, none⟩) n c, .pointer (some ⟨G, 0, none⟩)] 44))
 have X0 := hide (heap_new w (.cells #[.slice (some ⟨b1, o1, none⟩) n c, .pointer (some ⟨G, 0, none⟩)] 44))
 have hi0 : (0 : Int) ≤ (i : Int) := by omega
 have hi1 : (i : Int) < (n : Int) := by omega
 generalize hW : w.alloc (.cells #[.slice (some ⟨b1, o1, none⟩) n c, .pointer (some ⟨G, 0, none⟩)] 44) = W at *
 have p1 := Mx.cellB P1.out BX.out
 have t0 := cell_of X0.out 0
 have t1 := cell_of X0.out 1
 simp at t0 t1
 by_cases hg : y.g = g
 ·have kn : Hid ((knF (hA l) l i g : Int) = (num l i (gof l i) : Int)) := by
   show _ = _
   unfold knF
   rw [if_pos (by rw [GE]; exact hg), GE, hg]
  have dg : (y.g == g) = true := by simp [hg]
  have N1 := hide (NU.out i hi W BX.out)
  rw [kn.out]
  generalize (num l i (gof l i) : Int) = z at N1 kn
  clear T hy hn hg kn GE
  go_enter Tryz.func26, Tryz.ntmps26
  go_wp2_with fail
  refine N1.out.mono ?_
  rintro r w1 ⟨rfl, b1'⟩
  have B1 := hide (btr BX.out b1')
  clear b1'
  go_wp2_with fail
  go_ret
  exact ⟨rfl, B1.out⟩
 ·have dg : (y.g == g) = false := by simp [hg]
  have kn : Hid ((knF (hA l) l i g : Int) = (mostF (hA l) l i g n : Int)) := by
   show _ = _
   unfold knF
   rw [if_neg (by rw [GE]; exact hg), hn]
  rw [kn.out]
  have FIN : Hid (∀ m, mostF (hA l) l i g m ≤ n + 1) := by
   show ∀ m, _
   intro m
   rcases Nat.eq_zero_or_pos (mostF (hA l) l i g m) with z | z
   ·omega
   ·obtain ⟨k, -, -, -, e⟩ := most_at z
    rw [e]
    exact NLE.out k g
  obtain ⟨mF, hmF⟩ : ∃ f : Nat → Nat, mostF (hA l) l i g = f := ⟨_, rfl⟩
  have MS : Hid (mF 0 = 0 ∧ ∀ m, mF (m + 1) = if gof l m = g ∧ hA l m i = true then max (mF m) (num l m g) else mF m) := by
   show _ ∧ _
   rw [← hmF]
   exact ⟨rfl, fun m => rfl⟩
  rw [hmF] at FIN ⊢
  clear T hy hn hg GE kn hmF
  go_enter Tryz.func26, Tryz.ntmps26
  go_wp2_with fail
  clear hW t0 t1 p1
  go_loopw [7, 23] (fun nv iv wr => ∃ k : Nat, k ≤ n ∧ iv = .int .i64 (k : Int) ∧ nv = .int .i64 (mF k : Int) ∧ Below W.heap.size W wr) (fun _ iv _ => n - (intOf iv).toNat)
  case atStart => exact ⟨0, by omega, rfl, by rw [MS.out.1]; rfl, Below.refl _ _⟩
  case round =>
   obtain ⟨k, hk, rfl, rfl, bl⟩ := hrel
   have BL := hide (btr BX.out bl)
   have BW := hide bl
   by_cases hlt : k < n
   ·have hlt' : (k : Int) < (n : Int) := by omega
    have k0 : (0 : Int) ≤ (k : Int) := by omega
    obtain ⟨x, hx⟩ : ∃ x, l[k]? = some x := get_lt (by rw [HN.out]; omega)
    have q1 := (((HE.out.below BL.out).read hx)).2.1
    have X1 := hide (heap_below X0.out bl)
    have t0 := cell_of X1.out 0
    have t1 := cell_of X1.out 1
    simp at t0 t1
    have MN := MS.out.2 k
    rw [gof_at hx] at MN
    by_cases hg : x.g = g
    ·have dg : (x.g == g) = true := by simp [hg]
     have H1 := hide (HH.out k hlt wr BL.out)
     obtain ⟨z, hz⟩ : ∃ z, hA l k i = z := ⟨_, rfl⟩
     rw [hz] at H1 MN
     cases z with
     | false =>
       have MN2 := hide (MN.trans (if_neg (by simp)))
       clear hx bl MN hz
       go_wp2_with fail
       refine H1.out.mono ?_
       rintro r u ⟨rfl, rfl⟩
       go_wp2_with fail
       go_roundw
       case measure => simp [intOf]; omega
       case rel => exact ⟨k + 1, by omega, by simp, by rw [MN2.out], BW.out⟩
     | true =>
       have MN2 := hide (MN.trans (if_pos ⟨hg, rfl⟩))
       have N1 := hide (NU.out k hlt wr BL.out)
       have N2 := hide (fun u bb => NU.out k hlt u bb)
       rw [gof_at hx, hg] at N1 N2
       obtain ⟨d, hd⟩ : ∃ d : Nat, num l k g = d := ⟨_, rfl⟩
       rw [hd] at N1 N2 MN2
       obtain ⟨e, he⟩ : ∃ e : Nat, mF k = e := ⟨_, rfl⟩
       rw [he] at MN2 ⊢
       clear hx bl MN hz hd he
       go_wp2_with fail
       refine H1.out.mono ?_
       rintro r u ⟨rfl, rfl⟩
       go_wp2_with fail
       refine N1.out.mono ?_
       rintro r w4 ⟨rfl, b4⟩
       have B4 := hide (btr BL.out b4)
       have BW4 := hide (btr BW.out b4)
       have X4 := hide (heap_below X1.out b4)
       clear t0 t1 b4 N1 q1
       have t0 := cell_of X4.out 0
       have t1 := cell_of X4.out 1
       simp at t0 t1
       by_cases hd : e < d
       ·have hd' : (e : Int) < (d : Int) := by omega
        have N3 := hide (N2.out w4 B4.out)
        go_wp2_with fail
        refine N3.out.mono ?_
        rintro r w5 ⟨rfl, b5⟩
        have BW5 := hide (btr BW4.out b5)
        clear b5 t0 t1
        go_wp2_with fail
        go_roundw
        case measure => simp [intOf]; omega
        case rel => exact ⟨k + 1, by omega, by simp, by rw [MN2.out, Nat.max_eq_right (by omega)], BW5.out⟩
       ·have hd' : ¬ ((e : Int) < (d : Int)) := by omega
        go_wp2_with fail
        go_roundw
        case measure => simp [intOf]; omega
        case rel => exact ⟨k + 1, by omega, by simp, by rw [MN2.out, Nat.max_eq_left (by omega)], BW4.out⟩
    ·have dg : (x.g == g) = false := by simp [hg]
     have MN2 := hide (MN.trans (if_neg (fun h => hg h.1)))
     clear hx bl MN hg
     go_wp2_with fail
     go_roundw
     case measure => simp [intOf]; omega
     case rel => exact ⟨k + 1, by omega, by simp, by rw [MN2.out], BW.out⟩
   ·obtain rfl : k = n := by omega
    clear bl hlt
    go_wp2_with fail
    go_ret
    exact ⟨rfl, BL.out⟩
end Ax
end Go.Proofs.YtblfimobiibmjaaGreat
