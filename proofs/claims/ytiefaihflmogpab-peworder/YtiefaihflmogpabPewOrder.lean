/- For every list of waiters and every list of goroutines, the law PewOrder returns true, so who waits longest is taken first, and who was dropped is never taken: under no condition. -/
import Derived.Test.YtiefaihflmogpabVg
import Derived.Test.YtiefaihflmogpabBo
import Derived.ShutString
import Derived.ChangeOld
import Derived.Below
namespace Go.Proofs.Ytiefaihflmogpab.pewOrder
open Go.ChangeShapes Go.WideShapes Go.ChangeAt Go.RowKit
open Go.ChangeMaps (open_string shut_string)
open Pe Ba

theorem own : ownKnob Try.prog.godebug = none := by kernel_rfl
theorem laidOut : laidOutB Try.prog = true := by kernel_rfl

/-- those of which no one is in ds -/
def lf (ds : List Int) (l : List Wt) : List Wt := l.filter fun x => ds.all fun g => !(x.g == g)
theorem lf_nil (l : List Wt) : lf [] l = l := by simp [lf]
theorem lf_len (ds : List Int) (l : List Wt) : (lf ds l).length ≤ l.length := List.length_filter_le _ _
theorem lf_succ (ds : List Int) (k : Nat) (hk : k < ds.length) (l : List Wt) : dr (nth ds k) (lf (ds.take k) l) = lf (ds.take (k + 1)) l := by
  unfold dr lf
  rw [List.filter_filter, List.take_add_one, List.getElem?_eq_getElem hk, nth_lt ds k hk]
  congr 1
  funext x
  simp only [Option.toList_some, List.all_append, List.all_cons, List.all_nil, Bool.and_true]
  exact Bool.and_comm _ _
/-- whether a waiter is gone -/
def gb (x : Wt) (ds : List Int) : Bool := !okb x || ds.any fun g => g == x.g
theorem gb_nil (x : Wt) : gb x [] = !okb x := by simp [gb]
theorem gb_succ (x : Wt) (ds : List Int) (k : Nat) (hk : k < ds.length) : gb x (ds.take (k + 1)) = (gb x (ds.take k) || (nth ds k == x.g)) := by
  unfold gb
  rw [List.take_add_one, List.getElem?_eq_getElem hk, nth_lt ds k hk]
  simp only [Option.toList_some, List.any_append, List.any_cons, List.any_nil, Bool.or_false, Bool.or_assoc]
/-- who is to be taken yet -/
def rs (l : List (List Int)) (ds : List Int) (k : Nat) : List Wt := lf ds (((l.drop k).map wl).filter okb)
theorem rs_step {l : List (List Int)} {ds : List Int} {k : Nat} {z : List Int} (h : l[k]? = some z) : (gb (wl z) ds = true → rs l ds k = rs l ds (k + 1)) ∧ (gb (wl z) ds = false → rs l ds k = wl z :: rs l ds (k + 1)) := by
  have hk := (List.getElem?_eq_some_iff.1 h).1
  have hz := (List.getElem?_eq_some_iff.1 h).2
  unfold rs lf gb
  rw [List.drop_eq_getElem_cons hk, hz, List.map_cons]
  have sw : (ds.any fun g => g == (wl z).g) = !(ds.all fun g => !((wl z).g == g)) := by
    rw [List.not_all_eq_any_not]
    congr 1
    funext g
    simp [Bool.beq_comm]
  rw [sw]
  cases ho : okb (wl z) <;> cases ha : (ds.all fun g => !((wl z).g == g)) <;> simp [ho, ha]
theorem rs_zero (l : List (List Int)) (ds : List Int) : rs l ds 0 = lf ds (ads l l.length) := by
  rw [ads_all]
  simp [rs]
theorem rs_end (l : List (List Int)) (ds : List Int) : rs l ds l.length = [] := by simp [rs, lf]

set_option maxRecDepth 100000 in
set_option maxHeartbeats 3200000 in
theorem core {w : World} (oa : Option Addr) (l : List (List Int)) (c : Nat) (hA : RAt w oa 3 l) (hl : l.length ≤ maxLen) (ob : Option Addr) (ds : List Int) (d : Nat) (hD : At w ob ds) (hd : ds.length ≤ maxLen) :
    Calls Try.prog 4 #[.slice oa l.length c, .slice ob ds.length d] w fun r w' => r = .returned (.bool true) ∧ Below w.heap.size w w' := by
  have HA := hide hA
  have HE0 := hide hD
  unfold maxLen at hl hd
  clear hA hD
  go_enter Try.func4, Try.ntmps4
  go_wp2_with fail
  refine (new_any _).mono ?_
  rintro r w1 ⟨rfl, p1, b1⟩
  have P1 := hide p1
  have B1 := hide b1
  clear p1 b1
  by_cases h3 : 300 < l.length
  · have h3' : decide ((300 : Int) < (l.length : Int)) = true := decide_eq_true (by omega)
    go_wp2_with fail
    refine (three_any _).mono ?_
    rintro r w5 ⟨rfl, b5⟩
    have B5 := hide (btr B1.out b5)
    clear b5
    go_wp2_with fail
    go_ret
    exact ⟨rfl, B5.out⟩
  have h3' : decide ((300 : Int) < (l.length : Int)) = false := decide_eq_false (by omega)
  by_cases h4 : 300 < ds.length
  · have h4' : decide ((300 : Int) < (ds.length : Int)) = true := decide_eq_true (by omega)
    go_wp2_with fail
    refine (three_any _).mono ?_
    rintro r w5 ⟨rfl, b5⟩
    have B5 := hide (btr B1.out b5)
    clear b5
    go_wp2_with fail
    go_ret
    exact ⟨rfl, B5.out⟩
  have h4' : decide ((300 : Int) < (ds.length : Int)) = false := decide_eq_false (by omega)
  go_wp2_with fail
  go_loopw [39] (fun i wr => ∃ (k : Nat), k ≤ l.length ∧ i = .int .i64 k ∧ Pw wr w.heap.size (ads l k) ∧ Below w.heap.size w wr) (fun i _ => l.length - (intOf i).toNat)
  case atStart => exact ⟨0, Nat.zero_le _, rfl, by rw [ads_zero]; exact P1.out, B1.out⟩
  case round =>
    clear P1 B1
    obtain ⟨k, hk, rfl, p2, b2⟩ := hrel
    have P2 := hide p2
    have B2 := hide b2
    clear p2 b2
    by_cases hlt : k < l.length
    · have hlt' : (k : Int) < (l.length : Int) := by omega
      obtain ⟨z, hz⟩ : ∃ z, l[k]? = some z := ⟨_, List.getElem?_eq_getElem hlt⟩
      obtain ⟨b', o', rfl, hc⟩ := (HA.out.below B2.out) k z hz
      have q0 := hc 0 (by decide)
      have q1 := hc 1 (by decide)
      have q2 := hc 2 (by decide)
      rw [Nat.add_zero] at q0
      have AS := hide (ads_succ hz (by omega))
      clear hc hz
      have AD := hide fun u hP => add_any w.heap.size (ads l k) (wl z) u hP
      rw [AS.out] at AD
      unfold wv wl at AD
      generalize nth z 0 = z0 at *
      generalize nth z 1 = z1 at *
      generalize nth z 2 = z2 at *
      generalize ae (ads l k) ⟨z0, z1, z2⟩ = aev at *
      go_wp2_with fail
      refine (AD.out _ (P2.out.below (below_alloc _ _))).mono ?_
      rintro r w3 ⟨rfl, p3, f3⟩
      have P3 := hide p3
      have B3 := hide (f3.under (btr B2.out (below_alloc _ _)) (Nat.le_refl _))
      clear p3 f3
      go_wp2_with fail
      go_roundw
      case rel => exact ⟨k + 1, by omega, by go_num, P3.out, B3.out⟩
      case measure => simp [intOf]; omega
    · have hlt' : ¬ ((k : Int) < (l.length : Int)) := by omega
      obtain rfl : k = l.length := by omega
      go_wp2_with fail
      rename World => wA
      go_loopw [49] (fun i wr => ∃ (k : Nat), k ≤ ds.length ∧ i = .int .i64 k ∧ Pw wr w.heap.size (lf (ds.take k) (ads l l.length)) ∧ Below w.heap.size w wr) (fun i _ => ds.length - (intOf i).toNat)
      case atStart => exact ⟨0, Nat.zero_le _, rfl, by rw [List.take_zero, lf_nil]; exact P2.out, B2.out⟩
      case round =>
        clear P2 B2
        obtain ⟨k, hk, rfl, p2, b2⟩ := hrel
        have P2 := hide p2
        have B2 := hide b2
        clear p2 b2
        by_cases hlt : k < ds.length
        · have hlt' : (k : Int) < (ds.length : Int) := by omega
          obtain ⟨b', o', rfl, hc⟩ := (HE0.out.below B2.out) k hlt
          have LS := hide (lf_succ ds k hlt (ads l l.length))
          go_wp2_with fail
          refine (drop_any _ _ (nth ds k) _ P2.out).mono ?_
          rw [LS.out]
          rintro r w3 ⟨rfl, p3, f3⟩
          have P3 := hide p3
          have B3 := hide (f3.under B2.out (Nat.le_refl _))
          clear p3 f3
          go_wp2_with fail
          go_roundw
          case rel => exact ⟨k + 1, by omega, by go_num, P3.out, B3.out⟩
          case measure => simp [intOf]; omega
        · have hlt' : ¬ ((k : Int) < (ds.length : Int)) := by omega
          rw [List.take_of_length_le (by omega), ← rs_zero] at P2
          go_wp2_with fail
          rename World => wB
          go_loopw [59] (fun i wr => ∃ (k : Nat), k ≤ l.length ∧ i = .int .i64 k ∧ Pw wr w.heap.size (rs l ds k) ∧ Below w.heap.size w wr) (fun i _ => l.length - (intOf i).toNat)
          case atStart => exact ⟨0, Nat.zero_le _, rfl, P2.out, B2.out⟩
          case round =>
            clear P2 B2
            obtain ⟨k, hk, rfl, p2, b2⟩ := hrel
            have P2 := hide p2
            have B2 := hide b2
            clear p2 b2
            by_cases hlt : k < l.length
            · have hlt' : (k : Int) < (l.length : Int) := by omega
              obtain ⟨z, hz⟩ : ∃ z, l[k]? = some z := ⟨_, List.getElem?_eq_getElem hlt⟩
              obtain ⟨b', o', rfl, hc⟩ := (HA.out.below B2.out) k z hz
              have q0 := hc 0 (by decide)
              have q1 := hc 1 (by decide)
              have q2 := hc 2 (by decide)
              rw [Nat.add_zero] at q0
              have RS := hide (rs_step (ds := ds) hz)
              clear hc hz
              unfold wl at RS
              generalize nth z 0 = z0 at *
              generalize nth z 1 = z1 at *
              generalize nth z 2 = z2 at *
              have Q4 := hide (heap_new wr (.cells #[.int .i64 z0, .int .i64 z1, .int .i64 z2] 31))
              have P4 := hide (P2.out.below (below_alloc wr (.cells #[.int .i64 z0, .int .i64 z1, .int .i64 z2] 31)))
              have B4 := hide (btr B2.out (below_alloc wr (.cells #[.int .i64 z0, .int .i64 z1, .int .i64 z2] 31)))
              have HE := hide (HE0.out.below B4.out)
              have hSw : wr.heap.size ≠ w.heap.size := by have := P2.out.lt; omega
              clear P2
              by_cases h1 : z0 < 0
              · have d1 : decide (z0 < 0) = true := decide_eq_true h1
                have HO : Hid (okb ⟨z0, z1, z2⟩ = false) := (okb_not _).2 (.inl h1)
                go_wp2_with fail
                generalize wr.alloc (.cells #[.int .i64 z0, .int .i64 z1, .int .i64 z2] 31) = W4 at P4 B4 Q4 HE ⊢
                have e0 := cell_of Q4.out 0
                have e1 := cell_of Q4.out 1
                have e2 := cell_of Q4.out 2
                have es := heap_lt Q4.out
                simp at e0 e1 e2
                go_loop [12, 73] (fun gn j => ∃ k' : Nat, k' ≤ ds.length ∧ j = .int .i64 k' ∧ gn = .bool (gb ⟨z0, z1, z2⟩ (ds.take k'))) (fun _ j => ds.length - (intOf j).toNat)
                case atStart => exact ⟨0, Nat.zero_le _, rfl, by rw [List.take_zero, gb_nil, HO.out]; rfl⟩
                case round =>
                  obtain ⟨k', hk', rfl, rfl⟩ := hrel
                  by_cases hlt2 : k' < ds.length
                  · have hlt2' : (k' : Int) < (ds.length : Int) := by omega
                    obtain ⟨b2, o2, rfl, hc2⟩ := HE.out k' hlt2
                    have GS := hide (gb_succ ⟨z0, z1, z2⟩ ds k' hlt2)
                    cases hgb : gb ⟨z0, z1, z2⟩ (ds.take k')
                    · go_wp2_with fail
                      go_round
                      case rel => exact ⟨k' + 1, by omega, by go_num, by rw [GS.out, hgb]; simp⟩
                      case measure => simp [intOf]; omega
                    · go_wp2_with fail
                      go_round
                      case rel => exact ⟨k' + 1, by omega, by go_num, by rw [GS.out, hgb]; simp⟩
                      case measure => simp [intOf]; omega
                  · have hlt2' : ¬ ((k' : Int) < (ds.length : Int)) := by omega
                    rw [List.take_of_length_le (by omega)]
                    cases hgb : gb ⟨z0, z1, z2⟩ ds
                    · have RT := hide (RS.out.2 hgb)
                      rw [RT.out] at P4
                      go_wp2_with fail
                      refine (take_some _ ⟨z0, z1, z2⟩ _ _ P4.out).mono ?_
                      unfold wv
                      rintro r w5 ⟨rfl, p5, f5⟩
                      have P5 := hide p5
                      have B5 := hide (f5.under B4.out (Nat.le_refl _))
                      have Q5 := hide (f5.2 _ _ _ _ Q4.out (by decide) (by omega))
                      clear p5 f5
                      have e50 := cell_of Q5.out 0
                      have e51 := cell_of Q5.out 1
                      have e52 := cell_of Q5.out 2
                      have es5 := heap_lt Q5.out
                      simp at e50 e51 e52
                      go_wp2_with fail
                      go_roundw
                      case rel => exact ⟨k + 1, by omega, by go_num, P5.out.below (below_alloc _ _), btr B5.out (below_alloc _ _)⟩
                      case measure => simp [intOf]; omega
                    · have RT := hide (RS.out.1 hgb)
                      rw [RT.out] at P4
                      go_wp2_with fail
                      go_roundw
                      case rel => exact ⟨k + 1, by omega, by go_num, P4.out, B4.out⟩
                      case measure => simp [intOf]; omega
              · have d1 : decide (z0 < 0) = false := decide_eq_false h1
                by_cases h2 : z1 < -1
                · have d2 : decide (z1 < -1) = true := decide_eq_true h2
                  have HO : Hid (okb ⟨z0, z1, z2⟩ = false) := (okb_not _).2 (.inr h2)
                  go_wp2_with fail
                  generalize wr.alloc (.cells #[.int .i64 z0, .int .i64 z1, .int .i64 z2] 31) = W4 at P4 B4 Q4 HE ⊢
                  have e0 := cell_of Q4.out 0
                  have e1 := cell_of Q4.out 1
                  have e2 := cell_of Q4.out 2
                  have es := heap_lt Q4.out
                  simp at e0 e1 e2
                  go_loop [12, 73] (fun gn j => ∃ k' : Nat, k' ≤ ds.length ∧ j = .int .i64 k' ∧ gn = .bool (gb ⟨z0, z1, z2⟩ (ds.take k'))) (fun _ j => ds.length - (intOf j).toNat)
                  case atStart => exact ⟨0, Nat.zero_le _, rfl, by rw [List.take_zero, gb_nil, HO.out]; rfl⟩
                  case round =>
                    obtain ⟨k', hk', rfl, rfl⟩ := hrel
                    by_cases hlt2 : k' < ds.length
                    · have hlt2' : (k' : Int) < (ds.length : Int) := by omega
                      obtain ⟨b2, o2, rfl, hc2⟩ := HE.out k' hlt2
                      have GS := hide (gb_succ ⟨z0, z1, z2⟩ ds k' hlt2)
                      cases hgb : gb ⟨z0, z1, z2⟩ (ds.take k')
                      · go_wp2_with fail
                        go_round
                        case rel => exact ⟨k' + 1, by omega, by go_num, by rw [GS.out, hgb]; simp⟩
                        case measure => simp [intOf]; omega
                      · go_wp2_with fail
                        go_round
                        case rel => exact ⟨k' + 1, by omega, by go_num, by rw [GS.out, hgb]; simp⟩
                        case measure => simp [intOf]; omega
                    · have hlt2' : ¬ ((k' : Int) < (ds.length : Int)) := by omega
                      rw [List.take_of_length_le (by omega)]
                      cases hgb : gb ⟨z0, z1, z2⟩ ds
                      · have RT := hide (RS.out.2 hgb)
                        rw [RT.out] at P4
                        go_wp2_with fail
                        refine (take_some _ ⟨z0, z1, z2⟩ _ _ P4.out).mono ?_
                        unfold wv
                        rintro r w5 ⟨rfl, p5, f5⟩
                        have P5 := hide p5
                        have B5 := hide (f5.under B4.out (Nat.le_refl _))
                        have Q5 := hide (f5.2 _ _ _ _ Q4.out (by decide) (by omega))
                        clear p5 f5
                        have e50 := cell_of Q5.out 0
                        have e51 := cell_of Q5.out 1
                        have e52 := cell_of Q5.out 2
                        have es5 := heap_lt Q5.out
                        simp at e50 e51 e52
                        go_wp2_with fail
                        go_roundw
                        case rel => exact ⟨k + 1, by omega, by go_num, P5.out.below (below_alloc _ _), btr B5.out (below_alloc _ _)⟩
                        case measure => simp [intOf]; omega
                      · have RT := hide (RS.out.1 hgb)
                        rw [RT.out] at P4
                        go_wp2_with fail
                        go_roundw
                        case rel => exact ⟨k + 1, by omega, by go_num, P4.out, B4.out⟩
                        case measure => simp [intOf]; omega
                · have d2 : decide (z1 < -1) = false := decide_eq_false h2
                  have HO : Hid (okb ⟨z0, z1, z2⟩ = true) := (okb_iff _).2 (by simp only; omega)
                  go_wp2_with fail
                  generalize wr.alloc (.cells #[.int .i64 z0, .int .i64 z1, .int .i64 z2] 31) = W4 at P4 B4 Q4 HE ⊢
                  have e0 := cell_of Q4.out 0
                  have e1 := cell_of Q4.out 1
                  have e2 := cell_of Q4.out 2
                  have es := heap_lt Q4.out
                  simp at e0 e1 e2
                  go_loop [12, 73] (fun gn j => ∃ k' : Nat, k' ≤ ds.length ∧ j = .int .i64 k' ∧ gn = .bool (gb ⟨z0, z1, z2⟩ (ds.take k'))) (fun _ j => ds.length - (intOf j).toNat)
                  case atStart => exact ⟨0, Nat.zero_le _, rfl, by rw [List.take_zero, gb_nil, HO.out]; rfl⟩
                  case round =>
                    obtain ⟨k', hk', rfl, rfl⟩ := hrel
                    by_cases hlt2 : k' < ds.length
                    · have hlt2' : (k' : Int) < (ds.length : Int) := by omega
                      obtain ⟨b2, o2, rfl, hc2⟩ := HE.out k' hlt2
                      have GS := hide (gb_succ ⟨z0, z1, z2⟩ ds k' hlt2)
                      cases hgb : gb ⟨z0, z1, z2⟩ (ds.take k')
                      · go_wp2_with fail
                        go_round
                        case rel => exact ⟨k' + 1, by omega, by go_num, by rw [GS.out, hgb]; simp⟩
                        case measure => simp [intOf]; omega
                      · go_wp2_with fail
                        go_round
                        case rel => exact ⟨k' + 1, by omega, by go_num, by rw [GS.out, hgb]; simp⟩
                        case measure => simp [intOf]; omega
                    · have hlt2' : ¬ ((k' : Int) < (ds.length : Int)) := by omega
                      rw [List.take_of_length_le (by omega)]
                      cases hgb : gb ⟨z0, z1, z2⟩ ds
                      · have RT := hide (RS.out.2 hgb)
                        rw [RT.out] at P4
                        go_wp2_with fail
                        refine (take_some _ ⟨z0, z1, z2⟩ _ _ P4.out).mono ?_
                        unfold wv
                        rintro r w5 ⟨rfl, p5, f5⟩
                        have P5 := hide p5
                        have B5 := hide (f5.under B4.out (Nat.le_refl _))
                        have Q5 := hide (f5.2 _ _ _ _ Q4.out (by decide) (by omega))
                        clear p5 f5
                        have e50 := cell_of Q5.out 0
                        have e51 := cell_of Q5.out 1
                        have e52 := cell_of Q5.out 2
                        have es5 := heap_lt Q5.out
                        simp at e50 e51 e52
                        go_wp2_with fail
                        go_roundw
                        case rel => exact ⟨k + 1, by omega, by go_num, P5.out.below (below_alloc _ _), btr B5.out (below_alloc _ _)⟩
                        case measure => simp [intOf]; omega
                      · have RT := hide (RS.out.1 hgb)
                        rw [RT.out] at P4
                        go_wp2_with fail
                        go_roundw
                        case rel => exact ⟨k + 1, by omega, by go_num, P4.out, B4.out⟩
                        case measure => simp [intOf]; omega
            · have hlt' : ¬ ((k : Int) < (l.length : Int)) := by omega
              obtain rfl : k = l.length := by omega
              rw [rs_end] at P2
              go_wp2_with fail
              refine (take_none _ _ P2.out).mono ?_
              unfold wv
              rintro r w5 ⟨rfl, b5⟩
              have B5 := hide (btr B2.out b5)
              clear b5
              go_wp2_with fail
              refine (three_any _).mono ?_
              rintro r w8 ⟨rfl, b8⟩
              have B8 := hide (btr B5.out (btr (below_alloc _ _) b8))
              clear b8
              go_wp2_with fail
              go_ret
              exact ⟨rfl, B8.out⟩

/-! ### the row -/
set_option maxRecDepth 100000 in
theorem lifted (os : Os) (started : os.Started) (H : Type) (enc : TypeId × Value → H) :
    ReturnsInHanded {} Try.checked os 4 .any (Rows.pewOrderSpec.pre6 enc Try.prog Try.f4 Rows.pewOrderRow.domain false) (Rows.pewOrderSpec.post enc Try.prog Try.f4 false true false false) := by
  refine returnsInHanded_of_change (C := Try.checked) own started (by kernel_rfl) Try.func4
    (ChangeSpec.witness6 (enc := enc) (C := Try.checked) false ⟨#[], #[.slice none 0 0, .slice none 0 0], []⟩ 8 (by kernel_rfl) (by kernel_rfl) (by kernel_rfl) (by kernel_rfl)) ?_
  intro W base args ds gs before hval0 hW hcnd _
  have hval : ∀ (j : Nat) t v, Try.f4.params[j]? = some t → args[j]? = some v → Value.okWide Try.prog W .any base t v := hval0
  have hW' := hW
  obtain ⟨p, q, hA0, hV, rfl, hfz, hnd⟩ := hW
  have hA : DataW.TrodAll enc Try.prog W 0 (fun _ => true) true Try.f4.params.toList args.toList ds p := hA0
  rw [Try.params4] at hA hval
  obtain ⟨v0, vs0, d0, ds0, p0, q0, hargs, rfl, rfl, h0, r0⟩ := trodAll_cons hA
  obtain ⟨v1, vs1, d1, ds1, p1, q1, rfl, rfl, rfl, h1, r1⟩ := trodAll_cons r0
  obtain ⟨rfl, rfl, rfl⟩ := trodAll_nil r1
  obtain rfl : args = #[v0, v1] := by cases args; simp_all
  obtain ⟨rfl, rfl⟩ := trodVars_none hV
  obtain ⟨oa0, n0, c0, rfl⟩ := okWide_slice Try.underlying47 (hval 0 47 v0 rfl rfl)
  have k0 := h0
  have lt0 : ∀ x ∈ p0, x.block < W.heap.size := by obtain ⟨m, hm⟩ := k0; exact DataW.trod_lt m _ _ _ hm
  obtain ⟨l0, rfl, A0, C0, M0⟩ := h0.elim fun _ hf => waiters_open hf
  obtain ⟨oa1, n1, c1, rfl⟩ := okWide_slice Try.underlying50 (hval 1 50 v1 rfl rfl)
  have k1 := h1
  have lt1 : ∀ x ∈ p1, x.block < W.heap.size := by obtain ⟨m, hm⟩ := k1; exact DataW.trod_lt m _ _ _ hm
  obtain ⟨l1, rfl, A1, C1, M1⟩ := h1.elim fun _ hf => ints_open hf
  clear hA0 hval0
  refine (core (w := W) oa0 l0 c0 A0 (Nat.le_trans C0 M0) oa1 l1 c1 A1 (Nat.le_trans C1 M1)).mono fun e W' ⟨he, bel⟩ => ?_
  subst he
  exact ⟨_, rfl, _, _, _, [], _, [], hW', trodAll_mk1 (shut_bool Try.underlying4 _), (trodAll_cons_mk (Below.trod laidOut (by kernel_rfl) (of_decide_eq_true (by kernel_rfl)) k0 bel lt0) (trodAll_cons_mk (Below.trod laidOut (by kernel_rfl) (of_decide_eq_true (by kernel_rfl)) k1 bel lt1) trodAll_mk0)), rfl, bel.frame _, fun h => by cases h⟩

theorem over : Rows.pewOrderRow.holds Try.pinned (OpenSpec.ofChange Rows.pewOrderSpec) :=
  OpenClaim.holds_of_wide 4 Try.f4 rfl rfl rfl rfl rfl rfl rfl ⟨rfl, rfl, rfl, rfl, rfl⟩ rfl rfl rfl rfl rfl (by kernel_rfl) Try.func4 (by kernel_rfl)
    (of_decide_eq_true (by kernel_rfl)) (by unfold Func.isWrapper; first | (rw [if_pos (by decide +kernel)]; kernel_rfl) | (rw [if_neg (by decide +kernel)]; exact ⟨rfl, rfl⟩))
    (fun os started H enc _ => lifted os started H enc)

/-- the statement -/
theorem proved : Rows.PewOrderSaid := over
#print axioms proved
end Go.Proofs.Ytiefaihflmogpab.pewOrder
