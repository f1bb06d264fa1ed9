/- EdgeGrows: of layer 24. -/
import Derived.Test.YtiobcfldnfiiaaaGreatZjEg15
import Derived.Deep.Cut
import Derived.Deep.QuietTactic
import Derived.BigQuiet
import Derived.ShutString
import Derived.ChangeOld
import Derived.Below
namespace Go.Proofs.YtiobcfldnfiiaaaGreat.edgeGrows
open Go.ChangeShapes Go.WideShapes Go.ChangeAt Go.RowKit
open Go.ChangeMaps (open_string shut_string)
open Eg En Ba

theorem own : ownKnob Tryz.prog.godebug = none := by kernel_rfl
theorem laidOut : laidOutB Tryz.prog = true := by kernel_rfl

theorem es_take {w : World} {oa : Option Addr} {l : List Ev} (h : Gu.EsAt w oa l) (k : Nat) : Gu.EsAt w oa (l.take k) := by
  intro i e he
  rw [List.getElem?_take] at he
  split at he
  · exact h i e he
  · cases he
theorem met_app (b : List Ed) : ∀ (a : List Ed) (x : Ed) (q : Nat), met b (a ++ [x]) q = if hit b (met b a q) x then met b a q + 1 else met b a q
  | [], x, q => by
    show met b [] (if hit b q x then q + 1 else q) = _
    rfl
  | y :: a, x, q => by
    show met b (a ++ [x]) (if hit b q y then q + 1 else q) = _
    rw [met_app b a x]
    rfl
theorem met_take {b a : List Ed} {k : Nat} {x : Ed} (hx : a[k]? = some x) : met b (a.take (k + 1)) 0 = if hit b (met b (a.take k) 0) x then met b (a.take k) 0 + 1 else met b (a.take k) 0 := by
  rw [List.take_add_one, hx]
  exact met_app b _ x 0
theorem met_le {b : List Ed} : ∀ (a : List Ed) (q : Nat), q ≤ b.length → met b a q ≤ b.length
  | [], q, h => h
  | x :: a, q, h => by
    show met b a (if hit b q x then q + 1 else q) ≤ _
    refine met_le a _ ?_
    split
    · rename_i hh
      have := (List.getElem?_eq_some_iff.1 ((hit_iff b q x).1 hh)).1
      omega
    · exact h
theorem eqEd (a b : Ed) (w : World) : (Op.equalIn 10000 39 (.agg #[.int .i64 (a.f : Int), .int .i64 (a.t : Int), .int .i64 (a.r : Int)]) (.agg #[.int .i64 (b.f : Int), .int .i64 (b.t : Int), .int .i64 (b.r : Int)])).run Tryz.prog w = .ok (eqE a b) w := by
  have e : eqE a b = (((a.f : Int) == (b.f : Int)) && ((a.t : Int) == (b.t : Int)) && ((a.r : Int) == (b.r : Int))) := by
    unfold eqE
    rw [Bool.eq_iff_iff]
    simp
    omega
  rw [e]
  cases h0 : ((a.f : Int) == (b.f : Int))
  · simp [go_sem, h0]
  cases h1 : ((a.t : Int) == (b.t : Int))
  · simp [go_sem, h0, h1]
  cases h2 : ((a.r : Int) == (b.r : Int))
  · simp [go_sem, h0, h1, h2]
  · simp [go_sem, h0, h1, h2]
set_option maxRecDepth 100000 in
set_option maxHeartbeats 3200000 in
theorem big {w : World} (oa : Option Addr) (n c : Nat) (m : Int) (hm : n ≤ maxLen) (h : 200 < n ∨ m < 0 ∨ (n : Int) < m) :
    Calls Tryz.prog 7 #[.slice oa n c, .int .i64 m] w fun e w' => e = .returned (.bool true) ∧ Below w.heap.size w w' := by
  unfold maxLen at hm
  have FV := Ba.hide (five_any w)
  by_cases h1 : 200 < n
  · have d1 : decide ((200 : Int) < (n : Int)) = true := by simp; omega
    have d2 : decide (200 < n) = true := by simp; omega
    clear h
    go_enter Tryz.func7, Tryz.ntmps7
    go_wp2_with fail
    refine FV.out.mono ?_
    rintro r w1 ⟨rfl, b1⟩
    have B1 := Ba.hide b1
    clear b1
    go_wp2_with fail
    go_ret
    exact ⟨rfl, B1.out⟩
  · have d1 : decide ((200 : Int) < (n : Int)) = false := by simp; omega
    have d2 : decide (200 < n) = false := by simp; omega
    by_cases h2 : m < 0
    · have d3 : decide (m < 0) = true := by simp; omega
      clear h
      go_enter Tryz.func7, Tryz.ntmps7
      go_wp2_with fail
      refine FV.out.mono ?_
      rintro r w1 ⟨rfl, b1⟩
      have B1 := Ba.hide b1
      clear b1
      go_wp2_with fail
      go_ret
      exact ⟨rfl, B1.out⟩
    · have d3 : decide (m < 0) = false := by simp; omega
      have d4 : decide (m > (n : Int)) = true := by simp; omega
      clear h
      go_enter Tryz.func7, Tryz.ntmps7
      go_wp2_with fail
      refine FV.out.mono ?_
      rintro r w1 ⟨rfl, b1⟩
      have B1 := Ba.hide b1
      clear b1
      go_wp2_with fail
      go_ret
      exact ⟨rfl, B1.out⟩
set_option maxRecDepth 100000 in
set_option maxHeartbeats 6400000 in
theorem core {w : World} (oa : Option Addr) (l : List Ev) (c : Nat) (hA : Gu.EsAt w oa l ∧ l.length ≤ c) (hm : l.length ≤ maxLen) (m : Int) :
    Calls Tryz.prog 7 #[.slice oa l.length c, .int .i64 m] w fun e w' => e = .returned (.bool true) ∧ Below w.heap.size w w' := by
  by_cases hb : 200 < l.length ∨ m < 0 ∨ (l.length : Int) < m
  · exact big oa l.length c m hm hb
  obtain ⟨hA, hcap⟩ := hA
  obtain ⟨k, rfl⟩ : ∃ k : Nat, m = (k : Int) := ⟨m.toNat, by omega⟩
  have hkl : k ≤ l.length := by omega
  have FV := Ba.hide (fun u => five_any u)
  have hT2 := Ba.hide (fun u (b : Below w.heap.size w u) => es_take (hA.below b) k)
  have LK : (l.take k).length = k := by rw [List.length_take]; omega
  have kc : k ≤ c := by omega
  have C2 : Hid (∀ u, Below w.heap.size w u → Calls Tryz.prog 10 #[.slice oa k c] u fun r w' => (∃ v z, r = .returned (.tuple #[v, .int .i64 z]) ∧ (tokB (l.take k) = true → z = 0 ∧ Ow w' u.heap.size v (allS (l.take k)))) ∧ Below u.heap.size u w') := by
    intro u b
    have e := hT2.out u b
    cases ht : tokB (l.take k)
    · have := All_no oa (l.take k) c u e (by omega) ht
      rw [LK] at this
      refine this.mono ?_
      rintro r w' ⟨rfl, b'⟩
      exact ⟨⟨_, _, rfl, fun q => by cases q⟩, b'⟩
    · have := All_yes oa (l.take k) c u e (by omega) ht
      rw [LK] at this
      refine this.mono ?_
      rintro r w' ⟨v, rfl, o, b'⟩
      exact ⟨⟨_, _, rfl, fun _ => ⟨rfl, o⟩⟩, b'⟩
  cases ht : tokB l
  · have C1 := Ba.hide (All_no oa l c w hA (by omega) ht)
    obtain ⟨M, hM⟩ : ∃ M, l.length = M := ⟨_, rfl⟩
    rw [hM] at C1 hb hkl ⊢
    have d1 : decide ((200 : Int) < (M : Int)) = false := by simp; omega
    have d2 : decide (200 < M) = false := by simp; omega
    have d3 : decide ((k : Int) < 0) = false := by simp
    have d4 : decide ((k : Int) > (M : Int)) = false := by simp; omega
    have d5 : decide (M < k) = false := by simp; omega
    clear hA hm hb ht hM hT2 LK hcap
    go_enter Tryz.func7, Tryz.ntmps7
    go_wp2_with fail
    refine C1.out.mono ?_
    rintro r w1 ⟨rfl, b1⟩
    have B1 := Ba.hide b1
    clear b1 C1
    go_wp2_with fail
    refine (C2.out _ B1.out).mono ?_
    rintro r w2 ⟨⟨v, z, rfl, -⟩, b2⟩
    have B2 := Ba.hide (Ba.btr B1.out b2)
    clear b2 C2
    go_wp2_with fail
    refine (FV.out _).mono ?_
    rintro r w3 ⟨rfl, b3⟩
    have B3 := Ba.hide (Ba.btr B2.out b3)
    clear b3
    go_wp2_with fail
    go_ret
    exact ⟨rfl, B3.out⟩
  have hT := tokB_iff.1 ht
  have hTk : Tok (l.take k) := hT.take k
  have C1 := Ba.hide (All_yes oa l c w hA (by omega) ht)
  have TK := tokB_iff.2 hTk
  have MA : Hid (met (allS (l.take k)) (allS l) 0 = (allS (l.take k)).length) := met_all (allS_srt _) _ 0 (allS_srt _) (Nat.zero_le _) (fun j y _ hy => (allS_mem hT y).2 (isD_take hT hkl ((allS_mem hTk y).1 (List.mem_of_getElem? hy))))
  rw [TK] at C2
  obtain ⟨A, hAA⟩ : ∃ A, allS l = A := ⟨_, rfl⟩
  obtain ⟨B, hBB⟩ : ∃ B, allS (l.take k) = B := ⟨_, rfl⟩
  rw [hAA] at C1 MA
  rw [hBB] at C2 MA
  obtain ⟨M, hM⟩ : ∃ M, l.length = M := ⟨_, rfl⟩
  rw [hM] at C1 hb hkl ⊢
  have d1 : decide ((200 : Int) < (M : Int)) = false := by simp; omega
  have d2 : decide (200 < M) = false := by simp; omega
  have d3 : decide ((k : Int) < 0) = false := by simp
  have d4 : decide ((k : Int) > (M : Int)) = false := by simp; omega
  have d5 : decide (M < k) = false := by simp; omega
  clear hA hm hb ht hM hT2 LK hcap hT hTk TK hAA hBB
  go_enter Tryz.func7, Tryz.ntmps7
  go_wp2_with fail
  refine C1.out.mono ?_
  rintro r w1 ⟨va, rfl, o1, b1⟩
  have B1 := Ba.hide b1
  obtain ⟨ea, ca, rfl, hca, hcm⟩ := o1.sl
  have O1 := Ba.hide o1
  obtain ⟨n, hn⟩ : ∃ n, A.length = n := ⟨_, rfl⟩
  have HN := Ba.hide hn
  have hnm : n ≤ 9223372036854775807 := by unfold maxLen at hcm; omega
  rw [hn] at O1 ⊢
  clear b1 o1 C1 hn hca hcm
  go_wp2_with fail
  refine (C2.out _ B1.out).mono ?_
  rintro r w2 ⟨⟨vb, z, rfl, hz⟩, b2⟩
  obtain ⟨rfl, o2⟩ := hz trivial
  have B2 := Ba.hide (Ba.btr B1.out b2)
  have O1b := Ba.hide (O1.out.below b2)
  obtain ⟨eb, cb, rfl, hcb, hcbm⟩ := o2.sl
  have O2 := Ba.hide o2
  obtain ⟨nb, hnb⟩ : ∃ n, B.length = n := ⟨_, rfl⟩
  have HNB := Ba.hide hnb
  have hnbm : nb ≤ 9223372036854775807 := by unfold maxLen at hcbm; omega
  rw [hnb] at O2 ⊢
  clear b2 hz o2 C2 hnb hcb hcbm
  go_wp2_with fail
  go_loopw [9, 45] (fun av iv wr => ∃ i : Nat, i ≤ n ∧ iv = .int .i64 i ∧ av = .int .i64 ((met B (A.take i) 0 : Nat) : Int) ∧ Below w2.heap.size w2 wr) (fun _ iv _ => n - (intOf iv).toNat)
  case atStart => exact ⟨0, Nat.zero_le _, rfl, rfl, Below.refl _ _⟩
  case round =>
    obtain ⟨i, hi, rfl, rfl, hbw⟩ := hrel
    have HB := Ba.hide hbw
    clear hbw
    have QL := met_le (b := B) (A.take i) 0 (Nat.zero_le _)
    rw [HNB.out] at QL
    by_cases hlt : i < n
    · have hlt' : (i : Int) < (n : Int) := by omega
      have i0 : (0 : Int) ≤ (i : Int) := by omega
      obtain ⟨x, hx⟩ : ∃ x, A[i]? = some x := ⟨_, List.getElem?_eq_getElem (by rw [HN.out]; omega)⟩
      have MT := Ba.hide (met_take (b := B) hx)
      obtain ⟨q, hq⟩ : ∃ q, met B (A.take i) 0 = q := ⟨_, rfl⟩
      rw [hq] at MT QL ⊢
      have O1c : Ow wr w.heap.size (.slice ea A.length ca) A := by rw [HN.out]; exact O1b.out.below HB.out
      obtain ⟨g, rfl, x0, x1, x2⟩ := O1c.cell hx
      clear hx hq O1c
      go_upto_region 13 with fail
      have XB := Ba.hide (heap_new wr (.cells #[.int .i64 (x.f : Int), .int .i64 (x.t : Int), .int .i64 (x.r : Int)] 39))
      have BX := Ba.hide (below_alloc wr (.cells #[.int .i64 (x.f : Int), .int .i64 (x.t : Int), .int .i64 (x.r : Int)] 39))
      generalize wr.alloc (.cells #[.int .i64 (x.f : Int), .int .i64 (x.t : Int), .int .i64 (x.r : Int)] 39) = w4 at *
      clear x0 x1 x2
      have x0 : w4.cell? ⟨wr.heap.size, 0, none⟩ = some (.int .i64 (x.f : Int)) := cell_of XB.out 0
      have x1 : w4.cell? ⟨wr.heap.size, 1, none⟩ = some (.int .i64 (x.t : Int)) := cell_of XB.out 1
      have x2 : w4.cell? ⟨wr.heap.size, 2, none⟩ = some (.int .i64 (x.r : Int)) := cell_of XB.out 2
      have BW4 := Ba.hide (Ba.btr HB.out BX.out)
      by_cases hqn : q < nb
      · obtain ⟨y, hy⟩ : ∃ y, B[q]? = some y := ⟨_, List.getElem?_eq_getElem (by rw [HNB.out]; omega)⟩
        have O2c : Ow w4 w1.heap.size (.slice eb B.length cb) B := by rw [HNB.out]; exact O2.out.below BW4.out
        obtain ⟨gy, rfl, y0, y1, y2⟩ := O2c.cell hy
        have HH : Hid (hit B q x = eqE y x) := by
          show hit B q x = eqE y x
          unfold hit
          rw [hy]
        have q0 : (0 : Int) ≤ (q : Int) := by omega
        have q1 : (q : Int) < (nb : Int) := by omega
        have q2 : decide ((q : Int) < (nb : Int)) = true := by simp; omega
        have q3 : decide (q < nb) = true := by simp; omega
        have ee := fun u => eqEd y x u
        obtain ⟨hb, hhb⟩ : ∃ hb, eqE y x = hb := ⟨_, rfl⟩
        rw [hhb] at ee HH
        clear hy O2c hhb
        rw [HH.out] at MT
        go_quiet (fail)
        cases hb
        · have MT2 := Ba.hide (MT.out.trans (if_neg Bool.false_ne_true))
          go_wp2_with fail
          go_roundw
          case measure => simp [intOf]; omega
          case rel => exact ⟨i + 1, by omega, by simp, by rw [MT2.out], Ba.btr BW4.out (Ba.bdrew _ _)⟩
        · have MT2 := Ba.hide (MT.out.trans (if_pos rfl))
          go_wp2_with fail
          go_roundw
          case measure => simp [intOf]; omega
          case rel => exact ⟨i + 1, by omega, by simp, by rw [MT2.out]; simp, Ba.btr BW4.out (Ba.bdrew _ _)⟩
      · have HF : hit B q x = false := by
          unfold hit
          rw [List.getElem?_eq_none (by rw [HNB.out]; omega)]
        have q2 : decide ((q : Int) < (nb : Int)) = false := by simp; omega
        have q3 : decide (q < nb) = false := by simp; omega
        rw [HF] at MT
        have MT2 := Ba.hide (MT.out.trans (if_neg Bool.false_ne_true))
        clear HF hqn
        go_quiet (fail)
        go_wp2_with fail
        go_roundw
        case measure => simp [intOf]; omega
        case rel => exact ⟨i + 1, by omega, by simp, by rw [MT2.out], Ba.btr BW4.out (Ba.bdrew _ _)⟩
    · have dl : decide ((i : Int) < (n : Int)) = false := by simp; omega
      have hin : i = n := by omega
      have e1 : met B (A.take i) 0 = nb := by
        rw [hin, ← HN.out, List.take_length, MA.out, HNB.out]
      rw [e1]
      have e2 : ((nb : Int) == (nb : Int)) = true := by simp
      have dl2 : decide (i < n) = false := by simp; omega
      clear e1 hin QL
      go_wp2_with fail
      refine (FV.out _).mono ?_
      rintro r w5 ⟨rfl, b5⟩
      have B5 := Ba.hide (Ba.btr (Ba.btr B2.out HB.out) b5)
      clear b5
      go_wp2_with fail
      go_ret
      exact ⟨rfl, B5.out⟩

/-! ### the row -/
set_option maxRecDepth 100000 in
theorem lifted (os : Os) (started : os.Started) (H : Type) (enc : TypeId × Value → H) :
    ReturnsInHanded {} Tryz.checked os 7 .any (Rows.edgeGrowsSpec.pre6 enc Tryz.prog Tryz.f7 Rows.edgeGrowsRow.domain false) (Rows.edgeGrowsSpec.post enc Tryz.prog Tryz.f7 false true false false) := by
  refine returnsInHanded_of_change (C := Tryz.checked) own started (by kernel_rfl) Tryz.func7
    (ChangeSpec.witness6 (enc := enc) (C := Tryz.checked) false ⟨#[], #[.slice none 0 0, .int .i64 0], []⟩ 8 (by kernel_rfl) (by kernel_rfl) (by kernel_rfl) (by kernel_rfl)) ?_
  intro W base args ds gs before hval0 hW hcnd _
  have hval : ∀ (j : Nat) t v, Tryz.f7.params[j]? = some t → args[j]? = some v → Value.okWide Tryz.prog W .any base t v := hval0
  have hW' := hW
  obtain ⟨p, q, hA0, hV, rfl, hfz, hnd⟩ := hW
  have hA : DataW.TrodAll enc Tryz.prog W 0 (fun _ => true) true Tryz.f7.params.toList args.toList ds p := hA0
  rw [Tryz.params7] at hA hval
  obtain ⟨v0, vs0, d0, ds0, p0, q0, hargs, rfl, rfl, h0, r0⟩ := trodAll_cons hA
  obtain ⟨v1, vs1, d1, ds1, p1, q1, rfl, rfl, rfl, h1, r1⟩ := trodAll_cons r0
  obtain ⟨rfl, rfl, rfl⟩ := trodAll_nil r1
  obtain rfl : args = #[v0, v1] := by cases args; simp_all
  obtain ⟨rfl, rfl⟩ := trodVars_none hV
  obtain ⟨oa0, n0, c0, rfl⟩ := okWide_slice Tryz.underlying22 (hval 0 22 v0 rfl rfl)
  have k0 := h0
  have lt0 : ∀ x ∈ p0, x.block < W.heap.size := by obtain ⟨m, hm⟩ := k0; exact DataW.trod_lt m _ _ _ hm
  obtain ⟨l0, rfl, A0, C0, M0⟩ := h0.elim fun _ hf => Gu.events_openC hf
  obtain ⟨a1, rfl, rfl, rfl, w1⟩ := open_int Tryz.underlying3 (hval 1 3 v1 rfl rfl) h1
  clear hA0 hval0
  refine (core (w := W) oa0 l0 c0 A0 (Nat.le_trans C0 M0) a1).mono fun e W' ⟨he, bel⟩ => ?_
  subst he
  exact ⟨_, rfl, _, _, _, [], _, [], hW', trodAll_mk1 (shut_bool Tryz.underlying4 _), (trodAll_cons_mk (Below.trod laidOut (by kernel_rfl) (of_decide_eq_true (by kernel_rfl)) k0 bel lt0) (trodAll_cons_mk (shut_int Tryz.underlying3 w1) trodAll_mk0)), rfl, bel.frame _, fun h => by cases h⟩

theorem over : Rows.edgeGrowsRow.holds Tryz.pinned (OpenSpec.ofChange Rows.edgeGrowsSpec) :=
  OpenClaim.holds_of_wide 7 Tryz.f7 rfl rfl rfl rfl rfl rfl rfl ⟨rfl, rfl, rfl, rfl, rfl⟩ rfl rfl rfl rfl rfl (by kernel_rfl) Tryz.func7 (by kernel_rfl)
    (of_decide_eq_true (by kernel_rfl)) (by unfold Func.isWrapper; first | (rw [if_pos (by decide +kernel)]; kernel_rfl) | (rw [if_neg (by decide +kernel)]; exact ⟨rfl, rfl⟩))
    (fun os started H enc _ => lifted os started H enc)

/-- the statement -/
theorem proved : Rows.EdgeGrowsSaid := over
#print axioms proved
end Go.Proofs.YtiobcfldnfiiaaaGreat.edgeGrows
