/- For every three lists, the law ClockOrder returns true, so Within is an order on clocks: each is within itself, two within one another are the same, and it goes on from one to the next: under no condition. -/
import Derived.Test.YtjcmaigeiijfeabRows
import Derived.WalkKit
import Derived.ProofKit
import Derived.OpenShut
import Derived.Test.YtjcmaigeiijfeabCs
import Derived.ShutString
import Derived.ChangeOld
import Derived.Below
namespace Go.Proofs.Ytjcmaigeiijfeab.clockOrder
open Go.ChangeShapes Go.WideShapes Go.ChangeAt Go.RowKit
open Go.ChangeMaps (open_string shut_string)
set_option linter.unusedVariables false

theorem own : ownKnob Try.prog.godebug = none := by kernel_rfl
theorem laidOut : laidOutB Try.prog = true := by kernel_rfl

/-- WHAT THE WALK IS TOLD OF A SLICE OF INTEGERS THAT CAME IN: it is nil; or it leads to a row of 'cap' cells, the numbers 'zs' (the first 'len' are its elements, the rest its spare room), each fitting its kind. -/
def IsRow (k : IntKind) (w : World) (a : Option Addr) (len cap : Nat) (zs : List Int) : Prop :=
  (a = none ∧ len = 0 ∧ cap = 0 ∧ zs = []) ∨
  ∃ x, a = some x ∧ len ≤ cap ∧ cap ≤ maxLen ∧ zs.length = cap ∧ (∀ i, i < zs.length → w.cell? (x.add i) = some (.int k (zs.getD i 0))) ∧ ∀ n ∈ zs, (Lit.int k n).wf = true

open Ck
set_option maxHeartbeats 1600000

theorem isRow_at {w : World} {a : Option Addr} {len cap : Nat} {z : List Int} (h : IsRow .i64 w a len cap z) : ∃ l, l.length = len ∧ At w a l ∧ len ≤ cap ∧ cap ≤ maxLen := by
  rcases h with ⟨rfl, rfl, rfl, rfl⟩ | ⟨x, rfl, hl, hm, hz, hcell, _⟩
  · exact ⟨[], rfl, fun k hk => absurd hk (Nat.not_lt_zero _), Nat.le_refl _, Nat.zero_le _⟩
  · refine ⟨z.take len, by simp; omega, fun k hk => ?_, hl, hm⟩
    have hk' : k < len ∧ k < z.length := by simp at hk; omega
    obtain ⟨b, off, spot⟩ := x
    have hspot : spot = none := by simpa [Addr.add] using World.cell?_spot (hcell 0 (by omega))
    subst hspot
    have hc := hcell k hk'.2
    refine ⟨b, off, rfl, ?_⟩
    rw [nth_take z len k hk'.1]
    rw [Addr.add_lit] at hc
    exact hc

theorem within_refl (l : List Int) : within l l = true := within_yes l l fun _ _ => Int.le_refl _
theorem within_all {l m : List Int} (hm : Valid m) (h : within l m = true) : ∀ k, nth l k ≤ nth m k := by
  intro k
  by_cases hk : k < l.length
  · have := of_decide_eq_true h
    exact this k hk
  · rw [nth_out l k (by omega)]
    by_cases hk2 : k < m.length
    · have := (okN_iff _).1 (hm k hk2)
      omega
    · rw [nth_out m k (by omega)]; exact Int.le_refl _
theorem valid_trm {l : List Int} (h : Valid l) : Valid (trm l) := by
  intro k hk
  rw [nth_trm]
  rw [trm_length] at hk
  exact h k (Nat.lt_of_lt_of_le hk (tlen_le l))
theorem within_trans {l m n : List Int} (hm : Valid m) (hn : Valid n) (h1 : within l m = true) (h2 : within m n = true) : within l n = true :=
  within_yes l n fun k _ => Int.le_trans (within_all hm h1 k) (within_all hn h2 k)
theorem within_both {l m : List Int} (hl : Valid l) (hm : Valid m) (cl : Canon l) (cm : Canon m) : (within l m && within m l) = decide (l = m) := by
  by_cases e : l = m
  · subst e; simp [within_refl]
  · have : (within l m && within m l) ≠ true := by
      intro h
      simp at h
      exact e (canon_eq cl cm fun j => Int.le_antisymm (within_all hm h.1 j) (within_all hl h.2 j))
    simp [e]
    simpa using this

/-! ### the walk -/
theorem walk (a0 : Option Addr) (len0 cap0 : Nat) (z0 : List Int) (a1 : Option Addr) (len1 cap1 : Nat) (z1 : List Int) (a2 : Option Addr) (len2 cap2 : Nat) (z2 : List Int) (w : World) (w0 : IsRow .i64 w a0 len0 cap0 z0) (w1 : IsRow .i64 w a1 len1 cap1 z1) (w2 : IsRow .i64 w a2 len2 cap2 z2) :
    Calls Try.prog 7 #[.slice a0 len0 cap0, .slice a1 len1 cap1, .slice a2 len2 cap2] w fun e w' => e = .returned (.bool true) ∧ Below w.heap.size w w' := by
  obtain ⟨la, hla, hAa, hca, hma⟩ := isRow_at w0
  obtain ⟨lb, hlb, hAb, hcb, hmb⟩ := isRow_at w1
  obtain ⟨lc, hlc, hAc, hcc, hmc⟩ := isRow_at w2
  have AA := hide hAa
  have AB := hide hAb
  have AC := hide hAc
  have HA := hide (And.intro hla (And.intro hca hma))
  have HB := hide (And.intro hlb (And.intro hcb hmb))
  have HC := hide (And.intro hlc (And.intro hcc hmc))
  clear w0 w1 w2 hla hAa hca hma hlb hAb hcb hmb hlc hAc hcc hmc
  go_enter Try.func7, Try.ntmps7
  go_wp2_with fail
  refine (of_any _ la _ _ HA.out.1 _ AA.out HA.out.2.1 HA.out.2.2).mono ?_
  rintro r w1 ⟨p1, e1, rfl, h1⟩
  have H1 := hide h1
  clear h1
  go_wp2_with fail
  refine (of_any _ lb _ _ HB.out.1 _ (AB.out.below H1.out.below) HB.out.2.1 HB.out.2.2).mono ?_
  rintro r w2 ⟨p2, e2, rfl, h2⟩
  have H2 := hide h2
  clear h2
  go_wp2_with fail
  refine (of_any _ lc _ _ HC.out.1 _ (AC.out.below (btr H1.out.below H2.out.below)) HC.out.2.1 HC.out.2.2).mono ?_
  rintro r w3 ⟨p3, e3, rfl, h3⟩
  have BB : Hid (Below w.heap.size w w3) := btr (btr H1.out.below H2.out.below) h3.below
  have H3 := hide h3
  clear h3
  rcases H1.out with ⟨q1, rfl, _, n1, _⟩ | ⟨rfl, _, v1, A1, rfl, G1, c1, r1, _, _, _, _, _⟩
  · clear q1
    go_wp2_with (go_at_call 15; refine (joins_any _).mono ?_; rintro r w4 ⟨rfl, hb4⟩)
    go_ret
    exact ⟨rfl, btr BB.out hb4⟩
  rcases H2.out with ⟨q2, rfl, _, n2, _⟩ | ⟨rfl, _, v2, A2, rfl, G2, c2, r2, _, _, _, _, b2⟩
  · clear q2
    go_wp2_with (go_at_call 15; refine (joins_any _).mono ?_; rintro r w4 ⟨rfl, hb4⟩)
    go_ret
    exact ⟨rfl, btr BB.out hb4⟩
  rcases H3.out with ⟨q3, rfl, _, n3, _⟩ | ⟨rfl, _, v3, A3, rfl, G3, c3, r3, _, _, _, _, b3⟩
  · clear q3
    go_wp2_with (go_at_call 15; refine (joins_any _).mono ?_; rintro r w4 ⟨rfl, hb4⟩)
    go_ret
    exact ⟨rfl, btr BB.out hb4⟩
  have K1 := hide ((r1.below b2).below b3).ck
  have K2 := hide (r2.below b3).ck
  have K3 := hide r3.ck
  have V1 := hide (valid_trm v1)
  have V2 := hide (valid_trm v2)
  have V3 := hide (valid_trm v3)
  clear r1 r2 r3 b2 b3 v1 v2 v3 H1 H2 H3
  -- each within itself
  go_wp2_with fail
  refine (within_is A1 A1 (trm la) (trm la) true (within_refl _) _ K1.out K1.out).mono ?_
  rintro r w4 ⟨rfl, rfl⟩
  have W12 : ∃ x, Hid (within (trm la) (trm lb) = x) := ⟨_, rfl⟩
  have W23 : ∃ x, Hid (within (trm lb) (trm lc) = x) := ⟨_, rfl⟩
  have W13 : ∃ x, Hid (within (trm la) (trm lc) = x) := ⟨_, rfl⟩
  have W21 : ∃ x, Hid (within (trm lb) (trm la) = x) := ⟨_, rfl⟩
  obtain ⟨x12, X12⟩ := W12
  obtain ⟨x23, X23⟩ := W23
  obtain ⟨x13, X13⟩ := W13
  obtain ⟨x21, X21⟩ := W21
  have E : Hid (decide (trm la = trm lb) = (x12 && x21)) := by
    show _ = _
    rw [← within_both V1.out V2.out (canon_trm _) (canon_trm _), X12.out, X21.out]
  have T : Hid (x12 = true → x23 = true → x13 = true) := fun q1 q2 => by
    rw [← X13.out]
    exact within_trans V2.out V3.out (X12.out.trans q1) (X23.out.trans q2)
  cases x12
  · clear T X13 X23
    go_wp2_with fail
    refine (within_is A1 A2 (trm la) (trm lb) false X12.out _ K1.out K2.out).mono ?_
    rintro r w4 ⟨rfl, rfl⟩
    go_wp2_with fail
    refine (within_is A1 A2 (trm la) (trm lb) false X12.out _ K1.out K2.out).mono ?_
    rintro r w4 ⟨rfl, rfl⟩
    have L1 : Hid ((trm la).length ≤ 256) := K1.out.len
    have L2 : Hid ((trm lb).length ≤ 256) := K2.out.len
    go_wp2_with fail
    refine (list_any A1 (trm la) _ K1.out).mono ?_
    rintro r w5 ⟨rfl, hw5⟩
    have P1 : Hid (At w5 (some ⟨w4.heap.size, 0, none⟩) (trm la)) := by show At _ _ _; rw [hw5]; exact At.new _ _ _
    have B5 : Hid (Below w4.heap.size w4 w5) := by show Below _ _ _; rw [hw5]; exact below_alloc _ _
    clear hw5
    go_wp2_with fail
    refine (list_any A2 (trm lb) _ (K2.out.below B5.out)).mono ?_
    rintro r w6 ⟨rfl, hw6⟩
    have P2 : Hid (At w6 (some ⟨w5.heap.size, 0, none⟩) (trm lb)) := by show At _ _ _; rw [hw6]; exact At.new _ _ _
    have B6 : Hid (Below w5.heap.size w5 w6) := by show Below _ _ _; rw [hw6]; exact below_alloc _ _
    clear hw6
    go_wp2_with fail
    refine (ints_is _ _ (trm la) (trm lb) _ _ _ _ false E.out rfl rfl _ (P1.out.below B6.out) P2.out L1.out L2.out).mono ?_
    rintro r w7 ⟨rfl, q, hw7⟩
    have B7 : Hid (Below w.heap.size w w7) := by show Below _ _ _; rw [hw7]; exact btr (btr (btr BB.out B5.out) B6.out) (bdrew _ _)
    clear hw7
    go_wp2_with (go_at_call 15; refine (joins_any _).mono ?_; rintro r w8 ⟨rfl, hb8⟩)
    go_ret
    exact ⟨rfl, btr B7.out hb8⟩
  simp only [Bool.true_and] at E
  cases x23
  · clear T X13
    go_wp2_with fail
    refine (within_is A1 A2 (trm la) (trm lb) true X12.out _ K1.out K2.out).mono ?_
    rintro r w4 ⟨rfl, rfl⟩
    go_wp2_with fail
    refine (within_is A2 A3 (trm lb) (trm lc) false X23.out _ K2.out K3.out).mono ?_
    rintro r w4 ⟨rfl, rfl⟩
    go_wp2_with fail
    refine (within_is A1 A2 (trm la) (trm lb) true X12.out _ K1.out K2.out).mono ?_
    rintro r w4 ⟨rfl, rfl⟩
    go_wp2_with fail
    refine (within_is A2 A1 (trm lb) (trm la) x21 X21.out _ K2.out K1.out).mono ?_
    rintro r w4 ⟨rfl, rfl⟩
    have L1 : Hid ((trm la).length ≤ 256) := K1.out.len
    have L2 : Hid ((trm lb).length ≤ 256) := K2.out.len
    go_wp2_with fail
    refine (list_any A1 (trm la) _ K1.out).mono ?_
    rintro r w5 ⟨rfl, hw5⟩
    have P1 : Hid (At w5 (some ⟨w4.heap.size, 0, none⟩) (trm la)) := by show At _ _ _; rw [hw5]; exact At.new _ _ _
    have B5 : Hid (Below w4.heap.size w4 w5) := by show Below _ _ _; rw [hw5]; exact below_alloc _ _
    clear hw5
    go_wp2_with fail
    refine (list_any A2 (trm lb) _ (K2.out.below B5.out)).mono ?_
    rintro r w6 ⟨rfl, hw6⟩
    have P2 : Hid (At w6 (some ⟨w5.heap.size, 0, none⟩) (trm lb)) := by show At _ _ _; rw [hw6]; exact At.new _ _ _
    have B6 : Hid (Below w5.heap.size w5 w6) := by show Below _ _ _; rw [hw6]; exact below_alloc _ _
    clear hw6
    go_wp2_with fail
    refine (ints_is _ _ (trm la) (trm lb) _ _ _ _ x21 E.out rfl rfl _ (P1.out.below B6.out) P2.out L1.out L2.out).mono ?_
    rintro r w7 ⟨rfl, q, hw7⟩
    have B7 : Hid (Below w.heap.size w w7) := by show Below _ _ _; rw [hw7]; exact btr (btr (btr BB.out B5.out) B6.out) (bdrew _ _)
    clear hw7
    go_wp2_with (go_at_call 15; refine (joins_any _).mono ?_; rintro r w8 ⟨rfl, hb8⟩)
    go_ret
    exact ⟨rfl, btr B7.out hb8⟩
  obtain rfl : x13 = true := T.out rfl rfl
  clear T
  go_wp2_with fail
  refine (within_is A1 A2 (trm la) (trm lb) true X12.out _ K1.out K2.out).mono ?_
  rintro r w4 ⟨rfl, rfl⟩
  go_wp2_with fail
  refine (within_is A2 A3 (trm lb) (trm lc) true X23.out _ K2.out K3.out).mono ?_
  rintro r w4 ⟨rfl, rfl⟩
  go_wp2_with fail
  refine (within_is A1 A3 (trm la) (trm lc) true X13.out _ K1.out K3.out).mono ?_
  rintro r w4 ⟨rfl, rfl⟩
  go_wp2_with fail
  refine (within_is A1 A2 (trm la) (trm lb) true X12.out _ K1.out K2.out).mono ?_
  rintro r w4 ⟨rfl, rfl⟩
  go_wp2_with fail
  refine (within_is A2 A1 (trm lb) (trm la) x21 X21.out _ K2.out K1.out).mono ?_
  rintro r w4 ⟨rfl, rfl⟩
  have L1 : Hid ((trm la).length ≤ 256) := K1.out.len
  have L2 : Hid ((trm lb).length ≤ 256) := K2.out.len
  go_wp2_with fail
  refine (list_any A1 (trm la) _ K1.out).mono ?_
  rintro r w5 ⟨rfl, hw5⟩
  have P1 : Hid (At w5 (some ⟨w4.heap.size, 0, none⟩) (trm la)) := by show At _ _ _; rw [hw5]; exact At.new _ _ _
  have B5 : Hid (Below w4.heap.size w4 w5) := by show Below _ _ _; rw [hw5]; exact below_alloc _ _
  clear hw5
  go_wp2_with fail
  refine (list_any A2 (trm lb) _ (K2.out.below B5.out)).mono ?_
  rintro r w6 ⟨rfl, hw6⟩
  have P2 : Hid (At w6 (some ⟨w5.heap.size, 0, none⟩) (trm lb)) := by show At _ _ _; rw [hw6]; exact At.new _ _ _
  have B6 : Hid (Below w5.heap.size w5 w6) := by show Below _ _ _; rw [hw6]; exact below_alloc _ _
  clear hw6
  go_wp2_with fail
  refine (ints_is _ _ (trm la) (trm lb) _ _ _ _ x21 E.out rfl rfl _ (P1.out.below B6.out) P2.out L1.out L2.out).mono ?_
  rintro r w7 ⟨rfl, q, hw7⟩
  have B7 : Hid (Below w.heap.size w w7) := by show Below _ _ _; rw [hw7]; exact btr (btr (btr BB.out B5.out) B6.out) (bdrew _ _)
  clear hw7
  go_wp2_with (go_at_call 15; refine (joins_any _).mono ?_; rintro r w8 ⟨rfl, hb8⟩)
  go_ret
  exact ⟨rfl, btr B7.out hb8⟩

/-! ### the row -/
set_option maxRecDepth 100000 in
theorem lifted (os : Os) (started : os.Started) (H : Type) (enc : TypeId × Value → H) :
    ReturnsInHanded {} Try.checked os 7 .any (Rows.clockOrderSpec.pre6 enc Try.prog Try.f7 Rows.clockOrderRow.domain false) (Rows.clockOrderSpec.post enc Try.prog Try.f7 false true false false) := by
  refine returnsInHanded_of_change (C := Try.checked) own started (by kernel_rfl) Try.func7
    (ChangeSpec.witness6 (enc := enc) (C := Try.checked) false ⟨#[], #[.slice none 0 0, .slice none 0 0, .slice none 0 0], []⟩ 8 (by kernel_rfl) (by kernel_rfl) (by kernel_rfl) (by kernel_rfl)) ?_
  intro W base args ds gs before hval0 hW hcnd _
  have hval : ∀ (j : Nat) t v, Try.f7.params[j]? = some t → args[j]? = some v → Value.okWide Try.prog W .any base t v := hval0
  have hW' := hW
  obtain ⟨p, q, hA0, hV, rfl, hfz, hnd⟩ := hW
  have hA : DataW.TrodAll enc Try.prog W 0 (fun _ => true) true Try.f7.params.toList args.toList ds p := hA0
  rw [Try.params7] at hA hval
  obtain ⟨v0, vs0, d0, ds0, p0, q0, hargs, rfl, rfl, h0, r0⟩ := trodAll_cons hA
  obtain ⟨v1, vs1, d1, ds1, p1, q1, rfl, rfl, rfl, h1, r1⟩ := trodAll_cons r0
  obtain ⟨v2, vs2, d2, ds2, p2, q2, rfl, rfl, rfl, h2, r2⟩ := trodAll_cons r1
  obtain ⟨rfl, rfl, rfl⟩ := trodAll_nil r2
  obtain rfl : args = #[v0, v1, v2] := by cases args; simp_all
  obtain ⟨rfl, rfl⟩ := trodVars_none hV
  obtain ⟨a0, len0, cap0, rfl⟩ := okWide_slice Try.underlying46 (hval 0 46 v0 rfl rfl)
  have k0 := h0
  have lt0 : ∀ x ∈ p0, x.block < W.heap.size := by obtain ⟨m, hm⟩ := k0; exact DataW.trod_lt m _ _ _ hm
  obtain ⟨z0, w0⟩ : ∃ zs, IsRow .i64 W a0 len0 cap0 zs := by
    obtain ⟨fuel, hf⟩ := h0
    rcases open_ints Try.underlying46 Try.underlying3 (by kernel_rfl) hf with ⟨hcs, _⟩ | ⟨x, l, c, zs, hcs, _, hl, hm, hz, _, hcell, hwz⟩
    · simp [Value.cells] at hcs
      obtain ⟨rfl, rfl, rfl⟩ := hcs
      exact ⟨[], .inl ⟨rfl, rfl, rfl, rfl⟩⟩
    · simp [Value.cells] at hcs
      obtain ⟨rfl, rfl, rfl⟩ := hcs
      exact ⟨zs, .inr ⟨_, rfl, hl, hm, by simpa using hz, hcell, hwz⟩⟩
  obtain ⟨a1, len1, cap1, rfl⟩ := okWide_slice Try.underlying46 (hval 1 46 v1 rfl rfl)
  have k1 := h1
  have lt1 : ∀ x ∈ p1, x.block < W.heap.size := by obtain ⟨m, hm⟩ := k1; exact DataW.trod_lt m _ _ _ hm
  obtain ⟨z1, w1⟩ : ∃ zs, IsRow .i64 W a1 len1 cap1 zs := by
    obtain ⟨fuel, hf⟩ := h1
    rcases open_ints Try.underlying46 Try.underlying3 (by kernel_rfl) hf with ⟨hcs, _⟩ | ⟨x, l, c, zs, hcs, _, hl, hm, hz, _, hcell, hwz⟩
    · simp [Value.cells] at hcs
      obtain ⟨rfl, rfl, rfl⟩ := hcs
      exact ⟨[], .inl ⟨rfl, rfl, rfl, rfl⟩⟩
    · simp [Value.cells] at hcs
      obtain ⟨rfl, rfl, rfl⟩ := hcs
      exact ⟨zs, .inr ⟨_, rfl, hl, hm, by simpa using hz, hcell, hwz⟩⟩
  obtain ⟨a2, len2, cap2, rfl⟩ := okWide_slice Try.underlying46 (hval 2 46 v2 rfl rfl)
  have k2 := h2
  have lt2 : ∀ x ∈ p2, x.block < W.heap.size := by obtain ⟨m, hm⟩ := k2; exact DataW.trod_lt m _ _ _ hm
  obtain ⟨z2, w2⟩ : ∃ zs, IsRow .i64 W a2 len2 cap2 zs := by
    obtain ⟨fuel, hf⟩ := h2
    rcases open_ints Try.underlying46 Try.underlying3 (by kernel_rfl) hf with ⟨hcs, _⟩ | ⟨x, l, c, zs, hcs, _, hl, hm, hz, _, hcell, hwz⟩
    · simp [Value.cells] at hcs
      obtain ⟨rfl, rfl, rfl⟩ := hcs
      exact ⟨[], .inl ⟨rfl, rfl, rfl, rfl⟩⟩
    · simp [Value.cells] at hcs
      obtain ⟨rfl, rfl, rfl⟩ := hcs
      exact ⟨zs, .inr ⟨_, rfl, hl, hm, by simpa using hz, hcell, hwz⟩⟩
  clear hA0 hval0
  refine (walk a0 len0 cap0 z0 a1 len1 cap1 z1 a2 len2 cap2 z2 W w0 w1 w2).mono fun e W' ⟨he, bel⟩ => ?_
  subst he
  exact ⟨_, rfl, _, _, _, [], _, [], hW', trodAll_mk1 (shut_bool Try.underlying4 _), (trodAll_cons_mk (Below.trod laidOut (by kernel_rfl) (of_decide_eq_true (by kernel_rfl)) k0 bel lt0) (trodAll_cons_mk (Below.trod laidOut (by kernel_rfl) (of_decide_eq_true (by kernel_rfl)) k1 bel lt1) (trodAll_cons_mk (Below.trod laidOut (by kernel_rfl) (of_decide_eq_true (by kernel_rfl)) k2 bel lt2) trodAll_mk0))), rfl, bel.frame _, fun h => by cases h⟩

theorem over : Rows.clockOrderRow.holds Try.pinned (OpenSpec.ofChange Rows.clockOrderSpec) :=
  OpenClaim.holds_of_wide 7 Try.f7 rfl rfl rfl rfl rfl rfl rfl ⟨rfl, rfl, rfl, rfl, rfl⟩ rfl rfl rfl rfl rfl (by kernel_rfl) Try.func7 (by kernel_rfl)
    (of_decide_eq_true (by kernel_rfl)) (by unfold Func.isWrapper; first | (rw [if_pos (by decide +kernel)]; kernel_rfl) | (rw [if_neg (by decide +kernel)]; exact ⟨rfl, rfl⟩))
    (fun os started H enc _ => lifted os started H enc)

/-- ████ THE STATEMENT ████ -/
theorem proved : Rows.ClockOrderSaid := over
#print axioms proved
end Go.Proofs.Ytjcmaigeiijfeab.clockOrder
