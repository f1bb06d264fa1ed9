/- For every three lists, the law ClockJoins returns true, so Join is the least clock within which both are, whichever is first, and how often: under no condition. -/
import Derived.Test.YtjcmaigeiijfeabRows
import Derived.WalkKit
import Derived.ProofKit
import Derived.OpenShut
import Derived.Test.YtjcmaigeiijfeabCt
import Derived.ShutString
import Derived.ChangeOld
import Derived.Below
namespace Go.Proofs.Ytjcmaigeiijfeab.clockJoins
open Go.ChangeShapes Go.WideShapes Go.ChangeAt Go.RowKit
open Go.ChangeMaps (open_string shut_string)
set_option linter.unusedVariables false

theorem own : ownKnob Try.prog.godebug = none := by kernel_rfl
theorem laidOut : laidOutB Try.prog = true := by kernel_rfl

/-- WHAT THE WALK IS TOLD OF A SLICE OF INTEGERS THAT CAME IN: it is nil; or it leads to a row of 'cap' cells, the numbers 'zs' (the first 'len' are its elements, the rest its spare room), each fitting its kind. -/
def IsRow (k : IntKind) (w : World) (a : Option Addr) (len cap : Nat) (zs : List Int) : Prop :=
  (a = none ∧ len = 0 ∧ cap = 0 ∧ zs = []) ∨
  ∃ x, a = some x ∧ len ≤ cap ∧ cap ≤ maxLen ∧ zs.length = cap ∧ (∀ i, i < zs.length → w.cell? (x.add i) = some (.int k (zs.getD i 0))) ∧ ∀ n ∈ zs, (Lit.int k n).wf = true

open Ck
set_option maxHeartbeats 3200000

theorem isRow_at {w : World} {a : Option Addr} {len cap : Nat} {z : List Int} (h : IsRow .i64 w a len cap z) : ∃ l, l.length = len ∧ At w a l ∧ len ≤ cap ∧ cap ≤ maxLen := by
  rcases h with ⟨rfl, rfl, rfl, rfl⟩ | ⟨x, rfl, hl, hm, hz, hcell, _⟩
  · exact ⟨[], rfl, fun k hk => absurd hk (Nat.not_lt_zero _), Nat.le_refl _, Nat.zero_le _⟩
  · refine ⟨z.take len, by simp; omega, fun k hk => ?_, hl, hm⟩
    have hk' : k < len ∧ k < z.length := by simp at hk; omega
    obtain ⟨b, off, spot⟩ := x
    have hspot : spot = none := by simpa [Addr.add] using World.cell?_spot (hcell 0 (by omega))
    subst hspot
    have hc := hcell k hk'.2
    refine ⟨b, off, rfl, ?_⟩
    rw [nth_take z len k hk'.1]
    rw [Addr.add_lit] at hc
    exact hc


theorem cs_fresh {B : Nat} {w w' : World} {h : Nat → Option (Nat × List Int)} (hs : Cs B w h) {l : List Int} {A : Nat} (hf : Fresh w w' l A) (hc : Canon l) (hv : Valid l) (i : Nat) : Cs B w' (upd h i (A, l)) := by
  obtain ⟨G, cap, r, h1, h2, _, _, hb⟩ := hf
  exact hs.fresh r h1 (fun x hx => by simp at hx; omega) hb hc hv i
theorem valid_trm {l : List Int} (h : Valid l) : Valid (trm l) := by
  intro k hk
  rw [nth_trm]
  rw [trm_length] at hk
  exact h k (Nat.lt_of_lt_of_le hk (tlen_le l))
theorem join_is {B : Nat} {w : World} {h : Nat → Option (Nat × List Int)} (hs : Cs B w h) (i j : Nat) {b b2 : Nat} (l m n : List Int) (x : Bool) (hi : h i = some (b, l)) (hj : h j = some (b2, m)) (hx : (!within m l) = x) (hn : jn l m = n) :
    Calls Try.prog 21 #[.pointer (some ⟨b, 0, none⟩), .pointer (some ⟨b2, 0, none⟩)] w fun r w' => r = .returned (.bool x) ∧ Cs B w' (upd h i (b, n)) ∧ Below B w w' := by
  subst hx hn
  exact cs_join hs hi hj
theorem copy_is {B : Nat} {w : World} {h : Nat → Option (Nat × List Int)} (hs : Cs B w h) (k i : Nat) {b : Nat} (l : List Int) (hk : h k = some (b, l)) :
    Calls Try.prog 23 #[.pointer (some ⟨b, 0, none⟩)] w fun r w' => ∃ A, r = .returned (.pointer (some ⟨A, 0, none⟩)) ∧ Cs B w' (upd h i (A, l)) ∧ Below B w w' := by
  refine (cs_copy hs hk).mono ?_
  rintro r w' ⟨A, rfl, h1, h2⟩
  exact ⟨A, rfl, h1 i, h2⟩

section plain
variable {X Y Z : List Int} (vx : Valid X) (vy : Valid Y) (vz : Valid Z) (cx : Canon X) (cy : Canon Y) (cz : Canon Z)
include vx vy cx cy
theorem jn_comm : jn X Y = jn Y X := canon_eq (canon_jn vx vy cx cy) (canon_jn vy vx cy cx) fun j => by rw [nth_jn, nth_jn]; omega
omit cx cy
theorem within_jn : within X (jn X Y) = true := (Ck.within_iff (valid_jn vx vy)).2 fun k => by rw [nth_jn]; omega
theorem within_jn2 : within Y (jn X Y) = true := (Ck.within_iff (valid_jn vx vy)).2 fun k => by rw [nth_jn]; omega
include cx cy
theorem jn_again : jn (jn X Y) X = jn X Y := jn_within (valid_jn vx vy) vx (canon_jn vx vy cx cy) cx (within_jn vx vy)
theorem jn_again2 : jn (jn X Y) Y = jn X Y := jn_within (valid_jn vx vy) vy (canon_jn vx vy cx cy) cy (within_jn2 vx vy)
omit vx vy cx cy
include vz
theorem jn_least (h1 : within X Z = true) (h2 : within Y Z = true) : within (jn X Y) Z = true := (Ck.within_iff vz).2 fun k => by
  have := within_all vz h1 k
  have := within_all vz h2 k
  rw [nth_jn]; omega
include vx vy cx cy cz
theorem jn_three : jn (jn X Y) Z = jn (jn Z Y) X := canon_eq (canon_jn (valid_jn vx vy) vz (canon_jn vx vy cx cy) cz) (canon_jn (valid_jn vz vy) vx (canon_jn vz vy cz cy) cx) fun j => by
  rw [nth_jn, nth_jn, nth_jn, nth_jn]; omega
end plain

/-! ### the walk -/
theorem walk (a0 : Option Addr) (len0 cap0 : Nat) (z0 : List Int) (a1 : Option Addr) (len1 cap1 : Nat) (z1 : List Int) (a2 : Option Addr) (len2 cap2 : Nat) (z2 : List Int) (w : World) (w0 : IsRow .i64 w a0 len0 cap0 z0) (w1 : IsRow .i64 w a1 len1 cap1 z1) (w2 : IsRow .i64 w a2 len2 cap2 z2) :
    Calls Try.prog 6 #[.slice a0 len0 cap0, .slice a1 len1 cap1, .slice a2 len2 cap2] w fun e w' => e = .returned (.bool true) ∧ Below w.heap.size w w' := by
  obtain ⟨la, hla, hAa, hca, hma⟩ := isRow_at w0
  obtain ⟨lb, hlb, hAb, hcb, hmb⟩ := isRow_at w1
  obtain ⟨lc, hlc, hAc, hcc, hmc⟩ := isRow_at w2
  have AA := hide hAa
  have AB := hide hAb
  have AC := hide hAc
  have HA := hide (And.intro hla (And.intro hca hma))
  have HB := hide (And.intro hlb (And.intro hcb hmb))
  have HC := hide (And.intro hlc (And.intro hcc hmc))
  clear w0 w1 w2 hla hAa hca hma hlb hAb hcb hmb hlc hAc hcc hmc
  go_enter Try.func6, Try.ntmps6
  go_wp2_with fail
  refine (of_any _ la _ _ HA.out.1 _ AA.out HA.out.2.1 HA.out.2.2).mono ?_
  rintro r w1 ⟨p1, e1, rfl, h1⟩
  have H1 := hide h1
  clear h1
  go_wp2_with fail
  refine (of_any _ lb _ _ HB.out.1 _ (AB.out.below H1.out.below) HB.out.2.1 HB.out.2.2).mono ?_
  rintro r w2 ⟨p2, e2, rfl, h2⟩
  have H2 := hide h2
  clear h2
  go_wp2_with fail
  refine (of_any _ lc _ _ HC.out.1 _ (AC.out.below (btr H1.out.below H2.out.below)) HC.out.2.1 HC.out.2.2).mono ?_
  rintro r w3 ⟨p3, e3, rfl, h3⟩
  have BB : Hid (Below w.heap.size w w3) := btr (btr H1.out.below H2.out.below) h3.below
  have H3 := hide h3
  clear h3
  rcases H1.out with ⟨q1, rfl, _, n1, _⟩ | ⟨rfl, _, v1, A1, rfl, f1⟩
  · clear q1
    go_wp2_with (go_at_call 15; refine (joins_any _).mono ?_; rintro r w4 ⟨rfl, hb4⟩)
    go_ret
    exact ⟨rfl, btr BB.out hb4⟩
  rcases H2.out with ⟨q2, rfl, _, n2, _⟩ | ⟨rfl, _, v2, A2, rfl, f2⟩
  · clear q2
    go_wp2_with (go_at_call 15; refine (joins_any _).mono ?_; rintro r w4 ⟨rfl, hb4⟩)
    go_ret
    exact ⟨rfl, btr BB.out hb4⟩
  rcases H3.out with ⟨q3, rfl, _, n3, _⟩ | ⟨rfl, _, v3, A3, rfl, f3⟩
  · clear q3
    go_wp2_with (go_at_call 15; refine (joins_any _).mono ?_; rintro r w4 ⟨rfl, hb4⟩)
    go_ret
    exact ⟨rfl, btr BB.out hb4⟩
  have VX := hide (valid_trm v1)
  have VY := hide (valid_trm v2)
  have VZ := hide (valid_trm v3)
  have CX := hide (canon_trm la)
  have CY := hide (canon_trm lb)
  have CZ := hide (canon_trm lc)
  have S : Hid (Cs w.heap.size w3 (upd (upd (upd (fun _ => none) 0 (A1, trm la)) 1 (A2, trm lb)) 2 (A3, trm lc))) :=
    cs_fresh (cs_fresh (cs_fresh (Cs.empty _ w (Nat.le_refl _)) f1 CX.out VX.out 0) f2 CY.out VY.out 1) f3 CZ.out VZ.out 2
  clear f1 f2 f3 v1 v2 v3 H1 H2 H3 AA AB AC HA HB HC
  generalize trm la = X at *
  generalize trm lb = Y at *
  generalize trm lc = Z at *
  go_wp2_with fail
  refine (copy_is S.out 0 3 X (by simp [upd])).mono ?_
  rintro r u1 ⟨P, rfl, hs, hb⟩
  have S2 := hide hs
  have BB2 : Hid (Below w.heap.size w u1) := BB.out.trans hb
  clear S BB hs hb
  have S := hide S2.out
  have BB := hide BB2.out
  clear S2 BB2
  obtain ⟨x1, X1⟩ : ∃ x, Hid ((!Ck.within Y X) = x) := ⟨_, rfl⟩
  obtain ⟨x2, X2⟩ : ∃ x, Hid ((!Ck.within X Y) = x) := ⟨_, rfl⟩
  go_wp2_with fail
  refine (join_is S.out 3 1 X Y (jn X Y) x1 (by simp [upd]) (by simp [upd]) X1.out rfl).mono ?_
  rintro r u2 ⟨rfl, hs, hb⟩
  have S2 := hide hs
  have BB2 : Hid (Below w.heap.size w u2) := BB.out.trans hb
  clear S BB hs hb
  have S := hide S2.out
  have BB := hide BB2.out
  clear S2 BB2
  go_wp2_with fail
  refine (copy_is S.out 1 4 Y (by simp [upd])).mono ?_
  rintro r u3 ⟨Q, rfl, hs, hb⟩
  have S2 := hide hs
  have BB2 : Hid (Below w.heap.size w u3) := BB.out.trans hb
  clear S BB hs hb
  have S := hide S2.out
  have BB := hide BB2.out
  clear S2 BB2
  go_wp2_with fail
  refine (join_is S.out 4 0 Y X (jn Y X) x2 (by simp [upd]) (by simp [upd]) X2.out rfl).mono ?_
  rintro r u4 ⟨rfl, hs, hb⟩
  have S2 := hide hs
  have BB2 : Hid (Below w.heap.size w u4) := BB.out.trans hb
  clear S BB hs hb
  have S := hide S2.out
  have BB := hide BB2.out
  clear S2 BB2
  go_wp2_with fail
  refine (list_any P (jn X Y) _ (S.out.get (i := 3) (by simp [upd])).1).mono ?_
  rintro r v1 ⟨rfl, hv1⟩
  have P1 : Hid (At v1 (some ⟨u4.heap.size, 0, none⟩) (jn X Y)) := by show At _ _ _; rw [hv1]; exact At.new _ _ _
  have D1 : Hid (Below u4.heap.size u4 v1) := by show Below _ _ _; rw [hv1]; exact below_alloc _ _
  clear hv1
  go_wp2_with fail
  refine (list_any Q (jn Y X) _ ((S.out.below D1.out).get (i := 4) (by simp [upd])).1).mono ?_
  rintro r v2 ⟨rfl, hv2⟩
  have P2 : Hid (At v2 (some ⟨v1.heap.size, 0, none⟩) (jn Y X)) := by show At _ _ _; rw [hv2]; exact At.new _ _ _
  have D2 : Hid (Below v1.heap.size v1 v2) := by show Below _ _ _; rw [hv2]; exact below_alloc _ _
  clear hv2
  have L1 := hide (S.out.get (i := 3) (by simp [upd]) : CK u4 P (jn X Y) ∧ _).1.len
  have L2 := hide (S.out.get (i := 4) (by simp [upd]) : CK u4 Q (jn Y X) ∧ _).1.len
  go_wp2_with fail
  refine (ints_is _ _ (jn X Y) (jn Y X) _ _ _ _ true (by simpa using jn_comm VX.out VY.out CX.out CY.out) rfl rfl _ (P1.out.below D2.out) P2.out L1.out L2.out).mono ?_
  rintro r v3 ⟨rfl, q, hv3⟩
  have D3 : Hid (Below u4.heap.size u4 v3) := by show Below _ _ _; rw [hv3]; exact btr (btr D1.out D2.out) (bdrew _ _)
  clear hv3 P1 P2 D1 D2 L1 L2
  have S2 := hide (S.out.below D3.out)
  have BB2 : Hid (Below w.heap.size w v3) := BB.out.trans (D3.out.mono S.out.base)
  clear S BB D3
  have S := hide S2.out
  have BB := hide BB2.out
  clear S2 BB2
  go_wp2_with fail
  refine (within_is A1 P X (jn X Y) true (within_jn VX.out VY.out) _ (S.out.get (i := 0) (by simp [upd])).1 (S.out.get (i := 3) (by simp [upd])).1).mono ?_
  rintro r v0 ⟨rfl, rfl⟩
  go_wp2_with fail
  refine (within_is A2 P Y (jn X Y) true (within_jn2 VX.out VY.out) _ (S.out.get (i := 1) (by simp [upd])).1 (S.out.get (i := 3) (by simp [upd])).1).mono ?_
  rintro r v0 ⟨rfl, rfl⟩
  go_wp2_with fail
  refine (join_is S.out 3 0 (jn X Y) X (jn X Y) false (by simp [upd]) (by simp [upd]) (by rw [within_jn VX.out VY.out]; rfl) (jn_again VX.out VY.out CX.out CY.out)).mono ?_
  rintro r u5 ⟨rfl, hs, hb⟩
  have S2 := hide hs
  have BB2 : Hid (Below w.heap.size w u5) := BB.out.trans hb
  clear S BB hs hb
  have S := hide S2.out
  have BB := hide BB2.out
  clear S2 BB2
  go_wp2_with fail
  refine (join_is S.out 3 1 (jn X Y) Y (jn X Y) false (by simp [upd]) (by simp [upd]) (by rw [within_jn2 VX.out VY.out]; rfl) (jn_again2 VX.out VY.out CX.out CY.out)).mono ?_
  rintro r u6 ⟨rfl, hs, hb⟩
  have S2 := hide hs
  have BB2 : Hid (Below w.heap.size w u6) := BB.out.trans hb
  clear S BB hs hb
  have S := hide S2.out
  have BB := hide BB2.out
  clear S2 BB2
  obtain ⟨xz, XZ⟩ : ∃ x, Hid (Ck.within X Z = x) := ⟨_, rfl⟩
  obtain ⟨yz, YZ⟩ : ∃ x, Hid (Ck.within Y Z = x) := ⟨_, rfl⟩
  obtain ⟨x3, X3⟩ : ∃ x, Hid ((!Ck.within Z (jn X Y)) = x) := ⟨_, rfl⟩
  obtain ⟨x4, X4⟩ : ∃ x, Hid ((!Ck.within Y Z) = x) := ⟨_, rfl⟩
  obtain ⟨x5, X5⟩ : ∃ x, Hid ((!Ck.within X (jn Z Y)) = x) := ⟨_, rfl⟩
  cases xz
  · go_wp2_with fail
    refine (within_is A1 A3 X Z false XZ.out _ (S.out.get (i := 0) (by simp [upd])).1 (S.out.get (i := 2) (by simp [upd])).1).mono ?_
    rintro r v0 ⟨rfl, rfl⟩
    go_wp2_with fail
    refine (join_is S.out 3 2 (jn X Y) Z (jn (jn X Y) Z) x3 (by simp [upd]) (by simp [upd]) X3.out rfl).mono ?_
    rintro r u7 ⟨rfl, hs, hb⟩
    have S2 := hide hs
    have BB2 : Hid (Below w.heap.size w u7) := BB.out.trans hb
    clear S BB hs hb
    have S := hide S2.out
    have BB := hide BB2.out
    clear S2 BB2
    go_wp2_with fail
    refine (copy_is S.out 2 5 Z (by simp [upd])).mono ?_
    rintro r u8 ⟨R, rfl, hs, hb⟩
    have S2 := hide hs
    have BB2 : Hid (Below w.heap.size w u8) := BB.out.trans hb
    clear S BB hs hb
    have S := hide S2.out
    have BB := hide BB2.out
    clear S2 BB2
    go_wp2_with fail
    refine (join_is S.out 5 1 Z Y (jn Z Y) x4 (by simp [upd]) (by simp [upd]) X4.out rfl).mono ?_
    rintro r u9 ⟨rfl, hs, hb⟩
    have S2 := hide hs
    have BB2 : Hid (Below w.heap.size w u9) := BB.out.trans hb
    clear S BB hs hb
    have S := hide S2.out
    have BB := hide BB2.out
    clear S2 BB2
    go_wp2_with fail
    refine (join_is S.out 5 0 (jn Z Y) X (jn (jn Z Y) X) x5 (by simp [upd]) (by simp [upd]) X5.out rfl).mono ?_
    rintro r u10 ⟨rfl, hs, hb⟩
    have S2 := hide hs
    have BB2 : Hid (Below w.heap.size w u10) := BB.out.trans hb
    clear S BB hs hb
    have S := hide S2.out
    have BB := hide BB2.out
    clear S2 BB2
    go_wp2_with fail
    refine (list_any P (jn (jn X Y) Z) _ (S.out.get (i := 3) (by simp [upd])).1).mono ?_
    rintro r v1 ⟨rfl, hv1⟩
    have P1 : Hid (At v1 (some ⟨u10.heap.size, 0, none⟩) (jn (jn X Y) Z)) := by show At _ _ _; rw [hv1]; exact At.new _ _ _
    have D1 : Hid (Below u10.heap.size u10 v1) := by show Below _ _ _; rw [hv1]; exact below_alloc _ _
    clear hv1
    go_wp2_with fail
    refine (list_any R (jn (jn Z Y) X) _ ((S.out.below D1.out).get (i := 5) (by simp [upd])).1).mono ?_
    rintro r v2 ⟨rfl, hv2⟩
    have P2 : Hid (At v2 (some ⟨v1.heap.size, 0, none⟩) (jn (jn Z Y) X)) := by show At _ _ _; rw [hv2]; exact At.new _ _ _
    have D2 : Hid (Below v1.heap.size v1 v2) := by show Below _ _ _; rw [hv2]; exact below_alloc _ _
    clear hv2
    have L1 := hide (S.out.get (i := 3) (by simp [upd]) : CK u10 P (jn (jn X Y) Z) ∧ _).1.len
    have L2 := hide (S.out.get (i := 5) (by simp [upd]) : CK u10 R (jn (jn Z Y) X) ∧ _).1.len
    go_wp2_with fail
    refine (ints_is _ _ (jn (jn X Y) Z) (jn (jn Z Y) X) _ _ _ _ true (by simpa using jn_three VX.out VY.out VZ.out CX.out CY.out CZ.out) rfl rfl _ (P1.out.below D2.out) P2.out L1.out L2.out).mono ?_
    rintro r v3 ⟨rfl, q, hv3⟩
    have D3 : Hid (Below u10.heap.size u10 v3) := by show Below _ _ _; rw [hv3]; exact btr (btr D1.out D2.out) (bdrew _ _)
    clear hv3 P1 P2 D1 D2 L1 L2
    have S2 := hide (S.out.below D3.out)
    have BB2 : Hid (Below w.heap.size w v3) := BB.out.trans (D3.out.mono S.out.base)
    clear S BB D3
    have S := hide S2.out
    have BB := hide BB2.out
    clear S2 BB2
    go_wp2_with (go_at_call 15; refine (joins_any _).mono ?_; rintro r z9 ⟨rfl, hb9⟩)
    go_ret
    exact ⟨rfl, btr BB.out hb9⟩
  · cases yz
    · go_wp2_with fail
      refine (within_is A1 A3 X Z true XZ.out _ (S.out.get (i := 0) (by simp [upd])).1 (S.out.get (i := 2) (by simp [upd])).1).mono ?_
      rintro r v0 ⟨rfl, rfl⟩
      go_wp2_with fail
      refine (within_is A2 A3 Y Z false YZ.out _ (S.out.get (i := 1) (by simp [upd])).1 (S.out.get (i := 2) (by simp [upd])).1).mono ?_
      rintro r v0 ⟨rfl, rfl⟩
      go_wp2_with fail
      refine (join_is S.out 3 2 (jn X Y) Z (jn (jn X Y) Z) x3 (by simp [upd]) (by simp [upd]) X3.out rfl).mono ?_
      rintro r u7 ⟨rfl, hs, hb⟩
      have S2 := hide hs
      have BB2 : Hid (Below w.heap.size w u7) := BB.out.trans hb
      clear S BB hs hb
      have S := hide S2.out
      have BB := hide BB2.out
      clear S2 BB2
      go_wp2_with fail
      refine (copy_is S.out 2 5 Z (by simp [upd])).mono ?_
      rintro r u8 ⟨R, rfl, hs, hb⟩
      have S2 := hide hs
      have BB2 : Hid (Below w.heap.size w u8) := BB.out.trans hb
      clear S BB hs hb
      have S := hide S2.out
      have BB := hide BB2.out
      clear S2 BB2
      go_wp2_with fail
      refine (join_is S.out 5 1 Z Y (jn Z Y) x4 (by simp [upd]) (by simp [upd]) X4.out rfl).mono ?_
      rintro r u9 ⟨rfl, hs, hb⟩
      have S2 := hide hs
      have BB2 : Hid (Below w.heap.size w u9) := BB.out.trans hb
      clear S BB hs hb
      have S := hide S2.out
      have BB := hide BB2.out
      clear S2 BB2
      go_wp2_with fail
      refine (join_is S.out 5 0 (jn Z Y) X (jn (jn Z Y) X) x5 (by simp [upd]) (by simp [upd]) X5.out rfl).mono ?_
      rintro r u10 ⟨rfl, hs, hb⟩
      have S2 := hide hs
      have BB2 : Hid (Below w.heap.size w u10) := BB.out.trans hb
      clear S BB hs hb
      have S := hide S2.out
      have BB := hide BB2.out
      clear S2 BB2
      go_wp2_with fail
      refine (list_any P (jn (jn X Y) Z) _ (S.out.get (i := 3) (by simp [upd])).1).mono ?_
      rintro r v1 ⟨rfl, hv1⟩
      have P1 : Hid (At v1 (some ⟨u10.heap.size, 0, none⟩) (jn (jn X Y) Z)) := by show At _ _ _; rw [hv1]; exact At.new _ _ _
      have D1 : Hid (Below u10.heap.size u10 v1) := by show Below _ _ _; rw [hv1]; exact below_alloc _ _
      clear hv1
      go_wp2_with fail
      refine (list_any R (jn (jn Z Y) X) _ ((S.out.below D1.out).get (i := 5) (by simp [upd])).1).mono ?_
      rintro r v2 ⟨rfl, hv2⟩
      have P2 : Hid (At v2 (some ⟨v1.heap.size, 0, none⟩) (jn (jn Z Y) X)) := by show At _ _ _; rw [hv2]; exact At.new _ _ _
      have D2 : Hid (Below v1.heap.size v1 v2) := by show Below _ _ _; rw [hv2]; exact below_alloc _ _
      clear hv2
      have L1 := hide (S.out.get (i := 3) (by simp [upd]) : CK u10 P (jn (jn X Y) Z) ∧ _).1.len
      have L2 := hide (S.out.get (i := 5) (by simp [upd]) : CK u10 R (jn (jn Z Y) X) ∧ _).1.len
      go_wp2_with fail
      refine (ints_is _ _ (jn (jn X Y) Z) (jn (jn Z Y) X) _ _ _ _ true (by simpa using jn_three VX.out VY.out VZ.out CX.out CY.out CZ.out) rfl rfl _ (P1.out.below D2.out) P2.out L1.out L2.out).mono ?_
      rintro r v3 ⟨rfl, q, hv3⟩
      have D3 : Hid (Below u10.heap.size u10 v3) := by show Below _ _ _; rw [hv3]; exact btr (btr D1.out D2.out) (bdrew _ _)
      clear hv3 P1 P2 D1 D2 L1 L2
      have S2 := hide (S.out.below D3.out)
      have BB2 : Hid (Below w.heap.size w v3) := BB.out.trans (D3.out.mono S.out.base)
      clear S BB D3
      have S := hide S2.out
      have BB := hide BB2.out
      clear S2 BB2
      go_wp2_with (go_at_call 15; refine (joins_any _).mono ?_; rintro r z9 ⟨rfl, hb9⟩)
      go_ret
      exact ⟨rfl, btr BB.out hb9⟩
    · go_wp2_with fail
      refine (within_is A1 A3 X Z true XZ.out _ (S.out.get (i := 0) (by simp [upd])).1 (S.out.get (i := 2) (by simp [upd])).1).mono ?_
      rintro r v0 ⟨rfl, rfl⟩
      go_wp2_with fail
      refine (within_is A2 A3 Y Z true YZ.out _ (S.out.get (i := 1) (by simp [upd])).1 (S.out.get (i := 2) (by simp [upd])).1).mono ?_
      rintro r v0 ⟨rfl, rfl⟩
      go_wp2_with fail
      refine (within_is P A3 (jn X Y) Z true (jn_least VZ.out XZ.out YZ.out) _ (S.out.get (i := 3) (by simp [upd])).1 (S.out.get (i := 2) (by simp [upd])).1).mono ?_
      rintro r v0 ⟨rfl, rfl⟩
      go_wp2_with fail
      refine (join_is S.out 3 2 (jn X Y) Z (jn (jn X Y) Z) x3 (by simp [upd]) (by simp [upd]) X3.out rfl).mono ?_
      rintro r u7 ⟨rfl, hs, hb⟩
      have S2 := hide hs
      have BB2 : Hid (Below w.heap.size w u7) := BB.out.trans hb
      clear S BB hs hb
      have S := hide S2.out
      have BB := hide BB2.out
      clear S2 BB2
      go_wp2_with fail
      refine (copy_is S.out 2 5 Z (by simp [upd])).mono ?_
      rintro r u8 ⟨R, rfl, hs, hb⟩
      have S2 := hide hs
      have BB2 : Hid (Below w.heap.size w u8) := BB.out.trans hb
      clear S BB hs hb
      have S := hide S2.out
      have BB := hide BB2.out
      clear S2 BB2
      go_wp2_with fail
      refine (join_is S.out 5 1 Z Y (jn Z Y) x4 (by simp [upd]) (by simp [upd]) X4.out rfl).mono ?_
      rintro r u9 ⟨rfl, hs, hb⟩
      have S2 := hide hs
      have BB2 : Hid (Below w.heap.size w u9) := BB.out.trans hb
      clear S BB hs hb
      have S := hide S2.out
      have BB := hide BB2.out
      clear S2 BB2
      go_wp2_with fail
      refine (join_is S.out 5 0 (jn Z Y) X (jn (jn Z Y) X) x5 (by simp [upd]) (by simp [upd]) X5.out rfl).mono ?_
      rintro r u10 ⟨rfl, hs, hb⟩
      have S2 := hide hs
      have BB2 : Hid (Below w.heap.size w u10) := BB.out.trans hb
      clear S BB hs hb
      have S := hide S2.out
      have BB := hide BB2.out
      clear S2 BB2
      go_wp2_with fail
      refine (list_any P (jn (jn X Y) Z) _ (S.out.get (i := 3) (by simp [upd])).1).mono ?_
      rintro r v1 ⟨rfl, hv1⟩
      have P1 : Hid (At v1 (some ⟨u10.heap.size, 0, none⟩) (jn (jn X Y) Z)) := by show At _ _ _; rw [hv1]; exact At.new _ _ _
      have D1 : Hid (Below u10.heap.size u10 v1) := by show Below _ _ _; rw [hv1]; exact below_alloc _ _
      clear hv1
      go_wp2_with fail
      refine (list_any R (jn (jn Z Y) X) _ ((S.out.below D1.out).get (i := 5) (by simp [upd])).1).mono ?_
      rintro r v2 ⟨rfl, hv2⟩
      have P2 : Hid (At v2 (some ⟨v1.heap.size, 0, none⟩) (jn (jn Z Y) X)) := by show At _ _ _; rw [hv2]; exact At.new _ _ _
      have D2 : Hid (Below v1.heap.size v1 v2) := by show Below _ _ _; rw [hv2]; exact below_alloc _ _
      clear hv2
      have L1 := hide (S.out.get (i := 3) (by simp [upd]) : CK u10 P (jn (jn X Y) Z) ∧ _).1.len
      have L2 := hide (S.out.get (i := 5) (by simp [upd]) : CK u10 R (jn (jn Z Y) X) ∧ _).1.len
      go_wp2_with fail
      refine (ints_is _ _ (jn (jn X Y) Z) (jn (jn Z Y) X) _ _ _ _ true (by simpa using jn_three VX.out VY.out VZ.out CX.out CY.out CZ.out) rfl rfl _ (P1.out.below D2.out) P2.out L1.out L2.out).mono ?_
      rintro r v3 ⟨rfl, q, hv3⟩
      have D3 : Hid (Below u10.heap.size u10 v3) := by show Below _ _ _; rw [hv3]; exact btr (btr D1.out D2.out) (bdrew _ _)
      clear hv3 P1 P2 D1 D2 L1 L2
      have S2 := hide (S.out.below D3.out)
      have BB2 : Hid (Below w.heap.size w v3) := BB.out.trans (D3.out.mono S.out.base)
      clear S BB D3
      have S := hide S2.out
      have BB := hide BB2.out
      clear S2 BB2
      go_wp2_with (go_at_call 15; refine (joins_any _).mono ?_; rintro r z9 ⟨rfl, hb9⟩)
      go_ret
      exact ⟨rfl, btr BB.out hb9⟩

/-! ### the row -/
set_option maxRecDepth 100000 in
theorem lifted (os : Os) (started : os.Started) (H : Type) (enc : TypeId × Value → H) :
    ReturnsInHanded {} Try.checked os 6 .any (Rows.clockJoinsSpec.pre6 enc Try.prog Try.f6 Rows.clockJoinsRow.domain false) (Rows.clockJoinsSpec.post enc Try.prog Try.f6 false true false false) := by
  refine returnsInHanded_of_change (C := Try.checked) own started (by kernel_rfl) Try.func6
    (ChangeSpec.witness6 (enc := enc) (C := Try.checked) false ⟨#[], #[.slice none 0 0, .slice none 0 0, .slice none 0 0], []⟩ 8 (by kernel_rfl) (by kernel_rfl) (by kernel_rfl) (by kernel_rfl)) ?_
  intro W base args ds gs before hval0 hW hcnd _
  have hval : ∀ (j : Nat) t v, Try.f6.params[j]? = some t → args[j]? = some v → Value.okWide Try.prog W .any base t v := hval0
  have hW' := hW
  obtain ⟨p, q, hA0, hV, rfl, hfz, hnd⟩ := hW
  have hA : DataW.TrodAll enc Try.prog W 0 (fun _ => true) true Try.f6.params.toList args.toList ds p := hA0
  rw [Try.params6] at hA hval
  obtain ⟨v0, vs0, d0, ds0, p0, q0, hargs, rfl, rfl, h0, r0⟩ := trodAll_cons hA
  obtain ⟨v1, vs1, d1, ds1, p1, q1, rfl, rfl, rfl, h1, r1⟩ := trodAll_cons r0
  obtain ⟨v2, vs2, d2, ds2, p2, q2, rfl, rfl, rfl, h2, r2⟩ := trodAll_cons r1
  obtain ⟨rfl, rfl, rfl⟩ := trodAll_nil r2
  obtain rfl : args = #[v0, v1, v2] := by cases args; simp_all
  obtain ⟨rfl, rfl⟩ := trodVars_none hV
  obtain ⟨a0, len0, cap0, rfl⟩ := okWide_slice Try.underlying46 (hval 0 46 v0 rfl rfl)
  have k0 := h0
  have lt0 : ∀ x ∈ p0, x.block < W.heap.size := by obtain ⟨m, hm⟩ := k0; exact DataW.trod_lt m _ _ _ hm
  obtain ⟨z0, w0⟩ : ∃ zs, IsRow .i64 W a0 len0 cap0 zs := by
    obtain ⟨fuel, hf⟩ := h0
    rcases open_ints Try.underlying46 Try.underlying3 (by kernel_rfl) hf with ⟨hcs, _⟩ | ⟨x, l, c, zs, hcs, _, hl, hm, hz, _, hcell, hwz⟩
    · simp [Value.cells] at hcs
      obtain ⟨rfl, rfl, rfl⟩ := hcs
      exact ⟨[], .inl ⟨rfl, rfl, rfl, rfl⟩⟩
    · simp [Value.cells] at hcs
      obtain ⟨rfl, rfl, rfl⟩ := hcs
      exact ⟨zs, .inr ⟨_, rfl, hl, hm, by simpa using hz, hcell, hwz⟩⟩
  obtain ⟨a1, len1, cap1, rfl⟩ := okWide_slice Try.underlying46 (hval 1 46 v1 rfl rfl)
  have k1 := h1
  have lt1 : ∀ x ∈ p1, x.block < W.heap.size := by obtain ⟨m, hm⟩ := k1; exact DataW.trod_lt m _ _ _ hm
  obtain ⟨z1, w1⟩ : ∃ zs, IsRow .i64 W a1 len1 cap1 zs := by
    obtain ⟨fuel, hf⟩ := h1
    rcases open_ints Try.underlying46 Try.underlying3 (by kernel_rfl) hf with ⟨hcs, _⟩ | ⟨x, l, c, zs, hcs, _, hl, hm, hz, _, hcell, hwz⟩
    · simp [Value.cells] at hcs
      obtain ⟨rfl, rfl, rfl⟩ := hcs
      exact ⟨[], .inl ⟨rfl, rfl, rfl, rfl⟩⟩
    · simp [Value.cells] at hcs
      obtain ⟨rfl, rfl, rfl⟩ := hcs
      exact ⟨zs, .inr ⟨_, rfl, hl, hm, by simpa using hz, hcell, hwz⟩⟩
  obtain ⟨a2, len2, cap2, rfl⟩ := okWide_slice Try.underlying46 (hval 2 46 v2 rfl rfl)
  have k2 := h2
  have lt2 : ∀ x ∈ p2, x.block < W.heap.size := by obtain ⟨m, hm⟩ := k2; exact DataW.trod_lt m _ _ _ hm
  obtain ⟨z2, w2⟩ : ∃ zs, IsRow .i64 W a2 len2 cap2 zs := by
    obtain ⟨fuel, hf⟩ := h2
    rcases open_ints Try.underlying46 Try.underlying3 (by kernel_rfl) hf with ⟨hcs, _⟩ | ⟨x, l, c, zs, hcs, _, hl, hm, hz, _, hcell, hwz⟩
    · simp [Value.cells] at hcs
      obtain ⟨rfl, rfl, rfl⟩ := hcs
      exact ⟨[], .inl ⟨rfl, rfl, rfl, rfl⟩⟩
    · simp [Value.cells] at hcs
      obtain ⟨rfl, rfl, rfl⟩ := hcs
      exact ⟨zs, .inr ⟨_, rfl, hl, hm, by simpa using hz, hcell, hwz⟩⟩
  clear hA0 hval0
  refine (walk a0 len0 cap0 z0 a1 len1 cap1 z1 a2 len2 cap2 z2 W w0 w1 w2).mono fun e W' ⟨he, bel⟩ => ?_
  subst he
  exact ⟨_, rfl, _, _, _, [], _, [], hW', trodAll_mk1 (shut_bool Try.underlying4 _), (trodAll_cons_mk (Below.trod laidOut (by kernel_rfl) (of_decide_eq_true (by kernel_rfl)) k0 bel lt0) (trodAll_cons_mk (Below.trod laidOut (by kernel_rfl) (of_decide_eq_true (by kernel_rfl)) k1 bel lt1) (trodAll_cons_mk (Below.trod laidOut (by kernel_rfl) (of_decide_eq_true (by kernel_rfl)) k2 bel lt2) trodAll_mk0))), rfl, bel.frame _, fun h => by cases h⟩

theorem over : Rows.clockJoinsRow.holds Try.pinned (OpenSpec.ofChange Rows.clockJoinsSpec) :=
  OpenClaim.holds_of_wide 6 Try.f6 rfl rfl rfl rfl rfl rfl rfl ⟨rfl, rfl, rfl, rfl, rfl⟩ rfl rfl rfl rfl rfl (by kernel_rfl) Try.func6 (by kernel_rfl)
    (of_decide_eq_true (by kernel_rfl)) (by unfold Func.isWrapper; first | (rw [if_pos (by decide +kernel)]; kernel_rfl) | (rw [if_neg (by decide +kernel)]; exact ⟨rfl, rfl⟩))
    (fun os started H enc _ => lifted os started H enc)

/-- ████ THE STATEMENT ████ -/
theorem proved : Rows.ClockJoinsSaid := over
#print axioms proved
end Go.Proofs.Ytjcmaigeiijfeab.clockJoins
