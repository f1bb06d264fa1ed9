/- For every list and every tid, the law ClockOf returns true, so Of answers the clock of the list, or the document's error, with its list, its numbers and each tid's epoch: under no condition. -/
import Derived.Test.YtjcmaigeiijfeabRows
import Derived.WalkKit
import Derived.ProofKit
import Derived.OpenShut
import Derived.Test.YtjcmaigeiijfeabEp
import Derived.Test.YtjcmaigeiijfeabRo
import Derived.ShutString
import Derived.ChangeOld
import Derived.Below
namespace Go.Proofs.Ytjcmaigeiijfeab.clockOf
open Go.ChangeShapes Go.WideShapes Go.ChangeAt Go.RowKit
open Go.ChangeMaps (open_string shut_string)
set_option linter.unusedVariables false

theorem own : ownKnob Try.prog.godebug = none := by kernel_rfl
theorem laidOut : laidOutB Try.prog = true := by kernel_rfl

/-- WHAT THE WALK IS TOLD OF A SLICE OF INTEGERS THAT CAME IN: it is nil; or it leads to a row of 'cap' cells, the numbers 'zs' (the first 'len' are its elements, the rest its spare room), each fitting its kind. -/
def IsRow (k : IntKind) (w : World) (a : Option Addr) (len cap : Nat) (zs : List Int) : Prop :=
  (a = none ∧ len = 0 ∧ cap = 0 ∧ zs = []) ∨
  ∃ x, a = some x ∧ len ≤ cap ∧ cap ≤ maxLen ∧ zs.length = cap ∧ (∀ i, i < zs.length → w.cell? (x.add i) = some (.int k (zs.getD i 0))) ∧ ∀ n ∈ zs, (Lit.int k n).wf = true

open Ck
set_option maxHeartbeats 1600000

theorem isRow_at {w : World} {a : Option Addr} {len cap : Nat} {z : List Int} (h : IsRow .i64 w a len cap z) : ∃ l, l.length = len ∧ At w a l ∧ len ≤ cap ∧ cap ≤ maxLen := by
  rcases h with ⟨rfl, rfl, rfl, rfl⟩ | ⟨x, rfl, hl, hm, hz, hcell, _⟩
  · exact ⟨[], rfl, fun k hk => absurd hk (Nat.not_lt_zero _), Nat.le_refl _, Nat.zero_le _⟩
  · refine ⟨z.take len, by simp; omega, fun k hk => ?_, hl, hm⟩
    have hk' : k < len ∧ k < z.length := by simp at hk; omega
    obtain ⟨b, off, spot⟩ := x
    have hspot : spot = none := by simpa [Addr.add] using World.cell?_spot (hcell 0 (by omega))
    subst hspot
    have hc := hcell k hk'.2
    refine ⟨b, off, rfl, ?_⟩
    rw [nth_take z len k hk'.1]
    rw [Addr.add_lit] at hc
    exact hc


theorem epoch_pos (b : Nat) (l : List Int) (t : Nat) (w : World) (h : CK w b l) (ht : t < 256) (h0 : 1 ≤ nth l t) (h1 : nth l t ≤ 1048576) :
    Calls Try.prog 33 #[.pointer (some ⟨b, 0, none⟩), .int .i64 (t : Int)] w fun r w' => r = .returned (.int .u64 (((t : Int) + 1) * 4294967296 + nth l t)) ∧ w' = w := by
  have H := hide h
  have G : Hid (gt l (t : Int) = nth l t) := gt_nat l t
  clear h
  go_enter Try.func33, Try.ntmps33
  go_wp2_with (first | (go_at_call 27; refine (get_any b l _ _ H.out).mono ?_; rw [G.out]; rintro r w' ⟨rfl, rfl⟩) | (go_at_call 9; refine (Ep.pack_ok _ _ (by omega) (by omega) h0 h1 _).mono ?_; rintro r w' ⟨rfl, rfl⟩))
  go_ret
  exact ⟨rfl, rfl⟩
theorem epoch_zero (b : Nat) (l : List Int) (t : Int) (w : World) (h : CK w b l) (h0 : gt l t = 0) :
    Calls Try.prog 33 #[.pointer (some ⟨b, 0, none⟩), .int .i64 t] w fun r w' => r = .returned (.int .u64 0) ∧ w' = w := by
  have H := hide h
  have G := hide h0
  have HN : Hid (t < 0 ∨ 256 ≤ t ∨ (0 : Int) < 1 ∨ (1048576 : Int) < 0) := .inr (.inr (.inl (by decide)))
  clear h h0
  go_enter Try.func33, Try.ntmps33
  go_wp2_with (first | (go_at_call 27; refine (get_any b l _ _ H.out).mono ?_; rw [G.out]; rintro r w' ⟨rfl, rfl⟩) | (go_at_call 9; refine (Ep.pack_no t 0 HN.out _).mono ?_; rintro r w' ⟨rfl, rfl⟩))
  go_ret
  exact ⟨rfl, rfl⟩

theorem get_is (b : Nat) (l : List Int) (t n : Int) (hn : gt l t = n) (w : World) (h : CK w b l) :
    Calls Try.prog 27 #[.pointer (some ⟨b, 0, none⟩), .int .i64 t] w fun r w' => r = .returned (.int .i64 n) ∧ w' = w := by
  subst hn
  exact get_any b l t w h
theorem rget_is (b off : Nat) (G : Nat → Int) (t n : Int) (hn : rg G t = n) (w : World) (h : RA w b off G) :
    Calls Try.prog 28 #[.pointer (some ⟨b, off, none⟩), .int .i64 t] w fun r w' => r = .returned (.int .i64 n) ∧ w' = w := by
  subst hn
  exact rget_any b off G t w h
theorem of_bad_n (oa : Option Addr) (l : List Int) (n c : Nat) (hn : l.length = n) (w : World) (hA : At w oa l) (hl : n ≤ 256) (hv : ¬ Valid l) :
    Calls Try.prog 31 #[.slice oa n c] w fun r w' => r = .returned (.tuple #[.pointer none, .int .i64 1]) ∧ w' = w := by
  subst hn
  exact of_bad oa l c w hA hl hv
theorem rof_bad_n (oa : Option Addr) (l : List Int) (n c : Nat) (hn : l.length = n) (w : World) (hA : At w oa l) (hl : n ≤ 256) (hv : ¬ Valid l) :
    Calls Try.prog 32 #[.slice oa n c] w fun r w' => r = .returned (.tuple #[.agg (ra nf), .int .i64 1]) ∧ Below w.heap.size w w' := by
  subst hn
  exact rof_bad oa l c w hA hl hv
theorem rof_ok_n (oa : Option Addr) (l : List Int) (n c : Nat) (hn : l.length = n) (w : World) (hA : At w oa l) (hl : n ≤ 256) (hv : Valid l) :
    Calls Try.prog 32 #[.slice oa n c] w fun r w' => r = .returned (.tuple #[.agg (ra (nth l)), .int .i64 0]) ∧ Below w.heap.size w w' := by
  subst hn
  exact rof_ok oa l c w hA hl hv

theorem list_at (b : Nat) (l : List Int) (w : World) (h : CK w b l) :
    Calls Try.prog 25 #[.pointer (some ⟨b, 0, none⟩)] w fun r w' => ∃ g, r = .returned (.slice (some ⟨g, 0, none⟩) l.length l.length) ∧ At w' (some ⟨g, 0, none⟩) l ∧ Below w.heap.size w w' := by
  refine (list_any b l w h).mono ?_
  rintro r w' ⟨rfl, rfl⟩
  exact ⟨_, rfl, At.new _ _ _, below_alloc _ _⟩

theorem gt_rg (l : List Int) (t : Int) (hl : l.length ≤ 256) : gt (trm l) t = rg (nth l) t := by
  by_cases h0 : t < 0
  · rw [gt_neg _ _ h0, rg_out _ _ (.inl h0)]
  · obtain ⟨k, rfl⟩ := Int.eq_ofNat_of_zero_le (by omega : 0 ≤ t)
    rw [gt_nat, nth_trm]
    by_cases h1 : k < 256
    · rw [rg_nat _ k h1]
    · rw [rg_out _ _ (.inr (by omega)), nth_out _ _ (by omega)]

set_option maxRecDepth 100000 in
theorem case_long (a0 : Option Addr) (len0 cap0 : Nat) (a1 : Int) (la : List Int) (w : World) (AA : Hid (At w a0 la)) (HA : Hid (la.length = len0 ∧ len0 ≤ cap0 ∧ cap0 ≤ maxLen)) (h : 256 < len0) :
    Calls Try.prog 5 #[.slice a0 len0 cap0, .int .i64 a1] w fun e w' => e = .returned (.bool true) ∧ Below w.heap.size w w' := by
  have hm : Hid (len0 ≤ maxLen) := Nat.le_trans HA.out.2.1 HA.out.2.2
  go_enter Try.func5, Try.ntmps5
  go_wp2_with fail
  refine (of_long _ _ _ _ h hm.out).mono ?_
  rintro r w1 ⟨rfl, rfl⟩
  go_wp2_with fail
  refine (rof_long _ _ _ _ h hm.out).mono ?_
  rintro r w2 ⟨rfl, hb2⟩
  have B2 := hide hb2
  have s1 := st_ref nf (heap_new w2 (.cells (ra nf) 37)) (ra_size nf)
  rw [setRow_new] at s1
  have zr := zero_ref
  have rs := ra_size nf
  clear hb2
  go_wp2_with (go_at_call 15; refine (joins_any _).mono ?_; rintro r w4 ⟨rfl, hb4⟩)
  go_ret
  exact ⟨rfl, btr (btr B2.out (below_alloc _ _)) hb4⟩

set_option maxRecDepth 100000 in
theorem case_bad (a0 : Option Addr) (len0 cap0 : Nat) (a1 : Int) (la : List Int) (w : World) (AA : Hid (At w a0 la)) (HA : Hid (la.length = len0 ∧ len0 ≤ cap0 ∧ cap0 ≤ maxLen)) (h : len0 ≤ 256) (hv : Hid (¬ Valid la)) :
    Calls Try.prog 5 #[.slice a0 len0 cap0, .int .i64 a1] w fun e w' => e = .returned (.bool true) ∧ Below w.heap.size w w' := by
  go_enter Try.func5, Try.ntmps5
  go_wp2_with fail
  refine (of_bad_n _ la _ _ HA.out.1 _ AA.out h hv.out).mono ?_
  rintro r w1 ⟨rfl, rfl⟩
  go_wp2_with fail
  refine (rof_bad_n _ la _ _ HA.out.1 _ AA.out h hv.out).mono ?_
  rintro r w2 ⟨rfl, hb2⟩
  have B2 := hide hb2
  have s1 := st_ref nf (heap_new w2 (.cells (ra nf) 37)) (ra_size nf)
  rw [setRow_new] at s1
  have zr := zero_ref
  have rs := ra_size nf
  clear hb2
  go_wp2_with (go_at_call 15; refine (joins_any _).mono ?_; rintro r w4 ⟨rfl, hb4⟩)
  go_ret
  exact ⟨rfl, btr (btr B2.out (below_alloc _ _)) hb4⟩

set_option maxRecDepth 100000 in
theorem case_zero (a0 : Option Addr) (len0 cap0 : Nat) (a1 : Int) (la : List Int) (w : World) (AA : Hid (At w a0 la)) (HA : Hid (la.length = len0 ∧ len0 ≤ cap0 ∧ cap0 ≤ maxLen)) (h : len0 ≤ 256) (hv : Hid (Valid la)) (RG : Hid (rg (nth la) a1 = 0)) (GT : Hid (gt (trm la) a1 = 0)) :
    Calls Try.prog 5 #[.slice a0 len0 cap0, .int .i64 a1] w fun e w' => e = .returned (.bool true) ∧ Below w.heap.size w w' := by
  have zr := zero_ref
  have rs := ra_size nf
  have rs2 := ra_size (nth la)
  go_enter Try.func5, Try.ntmps5
  go_wp2_with fail
  refine (of_fresh _ la _ _ HA.out.1 _ AA.out h HA.out.2.1 HA.out.2.2 hv.out).mono ?_
  rintro r w1 ⟨A1, rfl, G1, c1, r1, _, _, _, _, b1⟩
  have K := hide r1.ck
  have B1 := hide b1
  have A2 := hide (AA.out.below b1)
  clear r1 b1
  go_wp2_with fail
  refine (rof_ok_n _ la _ _ HA.out.1 _ A2.out h hv.out).mono ?_
  rintro r w2 ⟨rfl, hb2⟩
  have s1 := st_ref (nth la) (heap_new w2 (.cells (ra nf) 37)) (ra_size nf)
  rw [setRow_new] at s1
  have R3 := hide (RA.new w2 (nth la) 37)
  have D3 := hide (btr hb2 (below_alloc w2 (.cells (ra (nth la)) 37)))
  clear hb2
  go_wp2_with fail
  refine (rget_is _ _ (nth la) _ 0 RG.out _ R3.out).mono ?_
  rintro r w3 ⟨rfl, hw3⟩
  rw [← hw3] at R3 D3
  clear hw3 s1
  go_wp2_with fail
  refine (epoch_zero A1 (trm la) _ _ (K.out.below D3.out) GT.out).mono ?_
  rintro r w4 ⟨rfl, rfl⟩
  go_wp2_with (first | (go_at_call 27; refine (get_is A1 (trm la) _ 0 GT.out _ (K.out.below D3.out)).mono ?_; rintro r w' ⟨rfl, rfl⟩))
  refine (list_at A1 (trm la) _ (K.out.below D3.out)).mono ?_
  rintro r w5 ⟨g5, rfl, a5, b5⟩
  have P1 := hide a5
  have B5 : Hid (Below w1.heap.size w1 w5) := btr D3.out b5
  have R5 : Hid (RA w5 w2.heap.size 0 (nth la)) := R3.out.below b5
  clear a5 b5
  go_wp2_with fail
  refine (rlist_any _ _ (nth la) _ R5.out (fun k _ => nth_nonneg hv.out k)).mono ?_
  rintro r w6 ⟨L, oa, c6, rfl, hat, hlen, hcan, hnth, hb6⟩
  have E : Hid (trm la = L) := canon_eq (canon_trm la) hcan fun j => by
    rw [nth_trm]
    by_cases q : j < 256
    · exact (hnth j q).symm
    · rw [nth_out la j (by have := HA.out.1; omega), nth_out L j (by omega)]
  have P2 := hide hat
  have P1b := hide (P1.out.below hb6)
  have B6 := hide (btr B5.out hb6)
  have L1 : Hid ((trm la).length ≤ 256) := by show _ ≤ _; rw [trm_length]; have := tlen_le la; have := HA.out.1; omega
  have L2 := hide hlen
  clear hat hlen hcan hnth hb6
  go_wp2_with fail
  refine (ints_is _ _ (trm la) L _ _ _ _ true (by simpa using E.out) rfl rfl _ P1b.out P2.out L1.out L2.out).mono ?_
  rintro r w7 ⟨rfl, q, hw7⟩
  have B7 : Hid (Below w.heap.size w w7) := by show Below _ _ _; rw [hw7]; exact btr (btr B1.out B6.out) (bdrew _ _)
  clear hw7
  go_wp2_with (go_at_call 15; refine (joins_any _).mono ?_; rintro r w8 ⟨rfl, hb8⟩)
  go_ret
  exact ⟨rfl, btr B7.out hb8⟩

set_option maxRecDepth 100000 in
theorem case_pos (a0 : Option Addr) (len0 cap0 : Nat) (k : Nat) (la : List Int) (w : World) (AA : Hid (At w a0 la)) (HA : Hid (la.length = len0 ∧ len0 ≤ cap0 ∧ cap0 ≤ maxLen)) (h : len0 ≤ 256) (hv : Hid (Valid la)) (hk : k < 256) (h0 : 1 ≤ nth la k) (h1 : nth la k ≤ 1048576) (RG : Hid (rg (nth la) (k : Int) = nth la k)) (GT : Hid (gt (trm la) (k : Int) = nth la k)) :
    Calls Try.prog 5 #[.slice a0 len0 cap0, .int .i64 (k : Int)] w fun e w' => e = .returned (.bool true) ∧ Below w.heap.size w w' := by
  have zr := zero_ref
  have rs := ra_size nf
  have rs2 := ra_size (nth la)
  go_enter Try.func5, Try.ntmps5
  go_wp2_with fail
  refine (of_fresh _ la _ _ HA.out.1 _ AA.out h HA.out.2.1 HA.out.2.2 hv.out).mono ?_
  rintro r w1 ⟨A1, rfl, G1, c1, r1, _, _, _, _, b1⟩
  have K := hide r1.ck
  have B1 := hide b1
  have A2 := hide (AA.out.below b1)
  clear r1 b1
  go_wp2_with fail
  refine (rof_ok_n _ la _ _ HA.out.1 _ A2.out h hv.out).mono ?_
  rintro r w2 ⟨rfl, hb2⟩
  have s1 := st_ref (nth la) (heap_new w2 (.cells (ra nf) 37)) (ra_size nf)
  rw [setRow_new] at s1
  have R3 := hide (RA.new w2 (nth la) 37)
  have D3 := hide (btr hb2 (below_alloc w2 (.cells (ra (nth la)) 37)))
  clear hb2
  go_wp2_with fail
  refine (rget_is _ _ (nth la) _ (nth la k) RG.out _ R3.out).mono ?_
  rintro r w3 ⟨rfl, hw3⟩
  rw [← hw3] at R3 D3
  clear hw3 s1
  go_wp2_with fail
  refine (epoch_pos A1 (trm la) k _ (K.out.below D3.out) hk (by rw [nth_trm]; exact h0) (by rw [nth_trm]; exact h1)).mono ?_; rw [nth_trm]
  rintro r w4 ⟨rfl, rfl⟩
  go_wp2_with (first | (go_at_call 27; refine (get_is A1 (trm la) _ (nth la k) GT.out _ (K.out.below D3.out)).mono ?_; rintro r w' ⟨rfl, rfl⟩) | (go_at_call 9; refine (Ep.pack_ok _ _ (by omega) (by omega) h0 h1 _).mono ?_; rintro r w' ⟨rfl, rfl⟩))
  refine (list_at A1 (trm la) _ (K.out.below D3.out)).mono ?_
  rintro r w5 ⟨g5, rfl, a5, b5⟩
  have P1 := hide a5
  have B5 : Hid (Below w1.heap.size w1 w5) := btr D3.out b5
  have R5 : Hid (RA w5 w2.heap.size 0 (nth la)) := R3.out.below b5
  clear a5 b5
  go_wp2_with fail
  refine (rlist_any _ _ (nth la) _ R5.out (fun k _ => nth_nonneg hv.out k)).mono ?_
  rintro r w6 ⟨L, oa, c6, rfl, hat, hlen, hcan, hnth, hb6⟩
  have E : Hid (trm la = L) := canon_eq (canon_trm la) hcan fun j => by
    rw [nth_trm]
    by_cases q : j < 256
    · exact (hnth j q).symm
    · rw [nth_out la j (by have := HA.out.1; omega), nth_out L j (by omega)]
  have P2 := hide hat
  have P1b := hide (P1.out.below hb6)
  have B6 := hide (btr B5.out hb6)
  have L1 : Hid ((trm la).length ≤ 256) := by show _ ≤ _; rw [trm_length]; have := tlen_le la; have := HA.out.1; omega
  have L2 := hide hlen
  clear hat hlen hcan hnth hb6
  go_wp2_with fail
  refine (ints_is _ _ (trm la) L _ _ _ _ true (by simpa using E.out) rfl rfl _ P1b.out P2.out L1.out L2.out).mono ?_
  rintro r w7 ⟨rfl, q, hw7⟩
  have B7 : Hid (Below w.heap.size w w7) := by show Below _ _ _; rw [hw7]; exact btr (btr B1.out B6.out) (bdrew _ _)
  clear hw7
  go_wp2_with (go_at_call 15; refine (joins_any _).mono ?_; rintro r w8 ⟨rfl, hb8⟩)
  go_ret
  exact ⟨rfl, btr B7.out hb8⟩

/-! ### the walk -/
theorem walk (a0 : Option Addr) (len0 cap0 : Nat) (z0 : List Int) (a1 : Int) (w : World) (w0 : IsRow .i64 w a0 len0 cap0 z0) (w1 : (Lit.int .i64 a1).wf = true) :
    Calls Try.prog 5 #[.slice a0 len0 cap0, .int .i64 a1] w fun e w' => e = .returned (.bool true) ∧ Below w.heap.size w w' := by
  obtain ⟨la, hla, hAa, hca, hma⟩ := isRow_at w0
  have HA := hide (And.intro hla (And.intro hca hma))
  by_cases h : len0 ≤ 256
  · by_cases hv : Valid la
    · have e := gt_rg la a1 (by omega)
      by_cases hz : rg (nth la) a1 = 0
      · exact case_zero _ _ _ a1 la w hAa HA h hv hz (e.trans hz)
      · have ht : 0 ≤ a1 ∧ a1 < 256 := by
          by_cases q : 0 ≤ a1 ∧ a1 < 256
          · exact q
          · exact absurd (rg_out _ _ (by omega)) hz
        obtain ⟨k, rfl⟩ := Int.eq_ofNat_of_zero_le ht.1
        have hk : k < 256 := by omega
        rw [rg_nat _ k hk] at hz
        have hkl : k < la.length := by
          by_cases q : k < la.length
          · exact q
          · exact absurd (nth_out la k (by omega)) hz
        have hb := (okN_iff _).1 (hv k hkl)
        exact case_pos _ _ _ k la w hAa HA h hv hk (by omega) hb.2 (rg_nat _ k hk) (e.trans (rg_nat _ k hk))
    · exact case_bad _ _ _ a1 la w hAa HA h hv
  · exact case_long _ _ _ a1 la w hAa HA (by omega)

/-! ### the row -/
set_option maxRecDepth 100000 in
theorem lifted (os : Os) (started : os.Started) (H : Type) (enc : TypeId × Value → H) :
    ReturnsInHanded {} Try.checked os 5 .any (Rows.clockOfSpec.pre6 enc Try.prog Try.f5 Rows.clockOfRow.domain false) (Rows.clockOfSpec.post enc Try.prog Try.f5 false true false false) := by
  refine returnsInHanded_of_change (C := Try.checked) own started (by kernel_rfl) Try.func5
    (ChangeSpec.witness6 (enc := enc) (C := Try.checked) false ⟨#[], #[.slice none 0 0, .int .i64 0], []⟩ 8 (by kernel_rfl) (by kernel_rfl) (by kernel_rfl) (by kernel_rfl)) ?_
  intro W base args ds gs before hval0 hW hcnd _
  have hval : ∀ (j : Nat) t v, Try.f5.params[j]? = some t → args[j]? = some v → Value.okWide Try.prog W .any base t v := hval0
  have hW' := hW
  obtain ⟨p, q, hA0, hV, rfl, hfz, hnd⟩ := hW
  have hA : DataW.TrodAll enc Try.prog W 0 (fun _ => true) true Try.f5.params.toList args.toList ds p := hA0
  rw [Try.params5] at hA hval
  obtain ⟨v0, vs0, d0, ds0, p0, q0, hargs, rfl, rfl, h0, r0⟩ := trodAll_cons hA
  obtain ⟨v1, vs1, d1, ds1, p1, q1, rfl, rfl, rfl, h1, r1⟩ := trodAll_cons r0
  obtain ⟨rfl, rfl, rfl⟩ := trodAll_nil r1
  obtain rfl : args = #[v0, v1] := by cases args; simp_all
  obtain ⟨rfl, rfl⟩ := trodVars_none hV
  obtain ⟨a0, len0, cap0, rfl⟩ := okWide_slice Try.underlying46 (hval 0 46 v0 rfl rfl)
  have k0 := h0
  have lt0 : ∀ x ∈ p0, x.block < W.heap.size := by obtain ⟨m, hm⟩ := k0; exact DataW.trod_lt m _ _ _ hm
  obtain ⟨z0, w0⟩ : ∃ zs, IsRow .i64 W a0 len0 cap0 zs := by
    obtain ⟨fuel, hf⟩ := h0
    rcases open_ints Try.underlying46 Try.underlying3 (by kernel_rfl) hf with ⟨hcs, _⟩ | ⟨x, l, c, zs, hcs, _, hl, hm, hz, _, hcell, hwz⟩
    · simp [Value.cells] at hcs
      obtain ⟨rfl, rfl, rfl⟩ := hcs
      exact ⟨[], .inl ⟨rfl, rfl, rfl, rfl⟩⟩
    · simp [Value.cells] at hcs
      obtain ⟨rfl, rfl, rfl⟩ := hcs
      exact ⟨zs, .inr ⟨_, rfl, hl, hm, by simpa using hz, hcell, hwz⟩⟩
  obtain ⟨a1, rfl, rfl, rfl, w1⟩ := open_int Try.underlying3 (hval 1 3 v1 rfl rfl) h1
  clear hA0 hval0
  refine (walk a0 len0 cap0 z0 a1 W w0 w1).mono fun e W' ⟨he, bel⟩ => ?_
  subst he
  exact ⟨_, rfl, _, _, _, [], _, [], hW', trodAll_mk1 (shut_bool Try.underlying4 _), (trodAll_cons_mk (Below.trod laidOut (by kernel_rfl) (of_decide_eq_true (by kernel_rfl)) k0 bel lt0) (trodAll_cons_mk (shut_int Try.underlying3 w1) trodAll_mk0)), rfl, bel.frame _, fun h => by cases h⟩

theorem over : Rows.clockOfRow.holds Try.pinned (OpenSpec.ofChange Rows.clockOfSpec) :=
  OpenClaim.holds_of_wide 5 Try.f5 rfl rfl rfl rfl rfl rfl rfl ⟨rfl, rfl, rfl, rfl, rfl⟩ rfl rfl rfl rfl rfl (by kernel_rfl) Try.func5 (by kernel_rfl)
    (of_decide_eq_true (by kernel_rfl)) (by unfold Func.isWrapper; first | (rw [if_pos (by decide +kernel)]; kernel_rfl) | (rw [if_neg (by decide +kernel)]; exact ⟨rfl, rfl⟩))
    (fun os started H enc _ => lifted os started H enc)

/-- ████ THE STATEMENT ████ -/
theorem proved : Rows.ClockOfSaid := over
#print axioms proved
end Go.Proofs.Ytjcmaigeiijfeab.clockOf
