/- Layer 18's laws, over this seat's program: whether all that is remembered is the same (looks). -/
import Derived.Test.YtnbheejahenejaaAs
namespace Go.Proofs.Ytnbheejahenejaa
open Go.ChangeShapes Go.WideShapes Go.ChangeAt Go.RowKit
namespace Ce
open Ck
open Ba (KF Bd Nw)
open Ep (tidOf clkOf ownB rdN rdT rdt rdc rdk)

theorem pos_no {l : List Int} (hs : Srt l) {t : Int} (h : ∀ e ∈ l, tidOf e ≠ t) : pos l (t + 1) = pos l t :=
  pos_is (pos_le l t) (fun k hk => by have := pos_lt hk; omega) (fun k hk hl => by
    have := pos_ge hs hk hl
    have := h _ (nth_mem hl)
    omega)
theorem pos_yes {l : List Int} (hs : Srt l) {t : Int} (h : has l t = true) : pos l (t + 1) = pos l t + 1 := by
  obtain ⟨hp, hpt⟩ := has_pos hs h
  refine pos_is (by omega) (fun k hk => ?_) (fun k hk hl => ?_)
  · by_cases e : k = pos l t
    · rw [e, hpt]; omega
    · have := pos_lt (l := l) (t := t) (k := k) (by omega); omega
  · have := hs (pos l t) k (by omega) hl
    omega
theorem pos_all {l : List Int} (h : ∀ e ∈ l, tidOf e < 256) : pos l 256 = l.length :=
  pos_is (Nat.le_refl _) (fun _ hk => h _ (nth_mem hk)) (fun _ hk hl => by omega)
theorem pos_nil {l : List Int} (h : ∀ e ∈ l, 0 ≤ tidOf e) : pos l 0 = 0 :=
  pos_is (Nat.zero_le _) (fun _ hk => absurd hk (Nat.not_lt_zero _)) (fun _ _ hl => h _ (nth_mem hl))

set_option maxRecDepth 100000 in
set_option maxHeartbeats 3200000 in
theorem looks_any {Y0 : Nat → Prop} {X R : Nat} {w : World} {st : Cst} {a : Ac} {F : Nat → Int} {tl : Bool} (j : J Y0 X R w st a F tl) :
    Calls Try.prog 12 #[.pointer (some ⟨X, 0, none⟩), .pointer (some ⟨R, 0, none⟩)] w fun r w' => r = .returned (.bool true) ∧ Below w.heap.size w w' := by
  have LA := hide (last_any j.cw)
  have la := j.cw.gd.last
  have SP := hide (split_any st.last la.1 la.2 w)
  unfold SplR rdV at SP
  have JJ := hide j
  clear la j
  go_enter Try.func12, Try.ntmps12
  go_wp2_with fail
  refine LA.out.mono ?_
  rintro r w0 ⟨rfl, e0⟩
  obtain rfl := e0.symm
  go_wp2_with fail
  refine SP.out.mono ?_
  rintro r w1 ⟨rfl, b1⟩
  have h2 : (w1.alloc (.cells #[.bool (rdN st.last), .bool (rdT st.last), .int .i64 (rdt st.last), .int .i64 (rdc st.last)] 65)).heap[w1.heap.size]? = some (.cells #[.bool (rdN st.last), .bool (rdT st.last), .int .i64 (rdt st.last), .int .i64 (rdc st.last)] 65 (0, 0)) := heap_new _ _
  have B2 := hide (btr b1 (Ba.below_alloc w1 (.cells #[.bool (rdN st.last), .bool (rdT st.last), .int .i64 (rdt st.last), .int .i64 (rdc st.last)] 65)))
  have H2 := hide h2
  clear b1 h2 LA SP
  go_upto_region 3 with fail
  generalize w1.alloc (.cells #[.bool (rdN st.last), .bool (rdT st.last), .int .i64 (rdt st.last), .int .i64 (rdc st.last)] 65) = w2 at *
  generalize w1.heap.size = P at *
  have J2 := hide (JJ.out.below B2.out)
  obtain ⟨z0, z1, z2, z3, -⟩ := J2.out.rx.cellA
  have p2 := cell_of H2.out 2
  have p3 := cell_of H2.out 3
  simp at p2 p3
  have LAq := J2.out.eq.la
  clear JJ H2
  have REST : Hid (∀ q, Below w.heap.size w (w2.drewN q) ∧ J Y0 X R (w2.drewN q) st a F tl) := fun q => ⟨btr B2.out (bdrew _ _), J2.out.below (bdrew _ _)⟩
  have hlen := srt_len J2.out.cw.gd.so J2.out.cw.gd.ro
  have SO := hide J2.out.cw.gd.so
  have RO := hide J2.out.cw.gd.ro
  have EQ := hide J2.out.eq
  have US := hide J2.out.cw.gd.u
  clear J2 B2
  rcases LAq with ⟨e0, e1, e2⟩ | ⟨e0, e1, e2⟩ | ⟨e0, e1, e2, e3, e4⟩
  · rw [e1] at z2
    rw [e2] at z3
    have f1 : (st.last == 0) = true := by rw [e0]; rfl
    have f2 : (st.last == 18446744073709551615) = false := by rw [e0]; rfl
    clear e0 e1 e2
    try simp only [List.append_eq, List.cons_append, List.nil_append]
    go_quiet (fail)
    have J3 := hide (REST.out nq).2
    have B3 := hide (REST.out nq).1
    clear REST z0 z1 z2 z3 p2 p3 f1 f2
    generalize w2.drewN nq = w3 at *
    have RS := hide (reads_any J3.out.cw)
    go_wp2_with fail
    refine RS.out.mono ?_
    rintro r w0 ⟨rfl, e0⟩
    obtain rfl := e0.symm
    have h4 : (w3.alloc (.cells (us st.rd).toArray 29)).heap[w3.heap.size]? = some (.cells (us st.rd).toArray 29 (0, 0)) := heap_new _ _
    have J4 := hide (J3.out.below (Ba.below_alloc w3 (.cells (us st.rd).toArray 29)))
    have B4 := hide (btr B3.out (Ba.below_alloc w3 (.cells (us st.rd).toArray 29)))
    have H4 := hide h4
    clear h4 J3 B3 RS
    generalize w3.alloc (.cells (us st.rd).toArray 29) = w4 at *
    generalize w3.heap.size = L at *
    generalize hn : st.rd.length = n at *
    go_wp2_with fail
    go_loopw [9, 10] (fun s i wr => ∃ k P : Nat, k ≤ 256 ∧ i = .int .i64 (k : Int) ∧ s = .int .i64 (P : Int) ∧ Hid (pos st.rd (k : Int) = P) ∧ J Y0 X R wr st a F tl ∧ wr.heap[L]? = some (.cells (us st.rd).toArray 29 (0, 0)) ∧ Below w.heap.size w wr) (fun _ i _ => 256 - (intOf i).toNat)
    case atStart => exact ⟨0, 0, by decide, rfl, rfl, (pos_nil fun e he => (own_tid (RO.out e he)).1 : pos st.rd 0 = 0), J4.out, H4.out, B4.out⟩
    case round =>
      clear J4 H4 B4
      obtain ⟨k, P, hk, rfl, rfl, hP, j4, h4, b4⟩ := hrel
      have J4 := hide j4
      have H4 := hide h4
      have B4 := hide b4
      clear j4 h4 b4
      by_cases hlt : k < 256
      · have hlt' : (k : Int) < 256 := by omega
        have c0 := (J4.out.rx.cellR hlt).1
        by_cases hF : F k = 0
        · have hF' : (F k == 0) = true := by rw [hF]; rfl
          have PN : Hid (pos st.rd ((k + 1 : Nat) : Int) = P) := by
            show pos st.rd ((k + 1 : Nat) : Int) = P
            rw [show ((k + 1 : Nat) : Int) = (k : Int) + 1 by omega, pos_no SO.out, hP.out]
            intro e he ht
            have h1 := EQ.out.rd e he
            have h2 := own_clk (RO.out e he)
            rw [ht, Int.toNat_natCast, hF] at h1
            omega
          clear hF
          generalize F k = fk at *
          go_wp2_with fail
          go_roundw
          case rel => exact ⟨k + 1, P, by omega, by go_num, rfl, PN.out, J4.out, H4.out, B4.out⟩
          case measure => simp [intOf]; omega
        · have hF' : (F k == 0) = false := beq_eq_false_iff_ne.2 hF
          obtain ⟨x, hx, hxt⟩ := EQ.out.dr k hlt hF
          have hh : has st.rd (k : Int) = true := by
            obtain ⟨i, hi, hix⟩ := mem_nth hx
            exact has_yes hi (by rw [hix]; exact hxt)
          obtain ⟨hp1, hp2⟩ := has_pos SO.out hh
          have PY : Hid (pos st.rd ((k + 1 : Nat) : Int) = P + 1) := by
            show pos st.rd ((k + 1 : Nat) : Int) = P + 1
            rw [show ((k + 1 : Nat) : Int) = (k : Int) + 1 by omega, pos_yes SO.out hh, hP.out]
          rw [hP.out] at hp1 hp2
          have hcl : clkOf (nth st.rd P) = F k := by
            have := EQ.out.rd _ (nth_mem hp1)
            rw [hp2, Int.toNat_natCast] at this
            exact this.symm
          have d0 : wr.cell? ⟨L, P, none⟩ = some (.int .u64 (nth st.rd P)) := by
            rw [cell_of H4.out, List.getElem?_toArray]; exact us_at _ _ hp1
          have TD := hide (fun u => Ep.tid_any (nth st.rd P) (US.out.nth P).1 (US.out.nth P).2 u)
          have CK := hide (fun u => Ep.clk_any (nth st.rd P) (US.out.nth P).1 (US.out.nth P).2 u)
          rw [hp2] at TD
          rw [hcl] at CK
          have hPn : (P : Int) < (n : Int) := by omega
          have hPd : decide ((n : Int) ≤ (P : Int)) = false := by simp; omega
          have hPe : decide (n ≤ P) = false := by simp; omega
          clear hF hx hxt hh hp1 hp2 hcl
          generalize F k = fk at *
          generalize nth st.rd P = ev at *
          go_wp2_with fail
          go_quiet ((first | (go_at_call 33; exact Calls.quiet_of_same (TD.out _)) | (go_at_call 34; exact Calls.quiet_of_same (CK.out _))))
          go_wp2_with fail
          go_roundw
          case rel => exact ⟨k + 1, P + 1, by omega, by go_num, by go_num, PY.out, J4.out.below (bdrew _ _), H4.out, btr B4.out (bdrew _ _)⟩
          case measure => simp [intOf]; omega
      · obtain rfl : k = 256 := by omega
        have hPn : P = n := by
          rw [← hn, ← hP.out]
          exact pos_all fun e he => (own_tid (RO.out e he)).2
        subst hPn
        have t0 := J4.out.rx.cellT.1
        rw [EQ.out.tl] at t0
        have TL := hide (fun u => tailed_any (J4.out.cw.kept (bdrew wr u)))
        have WD := hide (fun u => wide_any (J4.out.cw.kept (bdrew wr u)))
        rw [hn] at WD
        have BE := hide (fun u => btr B4.out (bdrew wr u))
        clear J4 EQ H4 B4
        generalize st.tl = tb at *
        cases tb
        all_goals
          by_cases h1 : 1 < P
          · have h1' : (1 : Int) < (P : Int) := by omega
            have h2 : decide ((1 : Int) < (P : Int)) = true := by simpa using h1'
            have h3 : decide (1 < P) = true := by simpa using h1
            rw [decide_eq_true h1] at WD
            go_wp2_with fail
            go_quiet ((first | (go_at_call 27; exact Calls.quiet_of_same (TL.out _)) | (go_at_call 28; exact Calls.quiet_of_same (WD.out _))))
            go_wp2_with fail
            go_ret
            exact ⟨rfl, BE.out _⟩
          · have h1' : ¬ ((1 : Int) < (P : Int)) := by omega
            have h2 : decide ((1 : Int) < (P : Int)) = false := by simpa using h1'
            have h3 : decide (1 < P) = false := by simpa using h1
            rw [decide_eq_false h1] at WD
            go_wp2_with fail
            go_quiet ((first | (go_at_call 27; exact Calls.quiet_of_same (TL.out _)) | (go_at_call 28; exact Calls.quiet_of_same (WD.out _))))
            go_wp2_with fail
            go_ret
            exact ⟨rfl, BE.out _⟩
  · rw [e1] at z2
    rw [e2] at z3
    have f1 : (st.last == 0) = false := by rw [e0]; rfl
    have f2 : (st.last == 18446744073709551615) = true := by rw [e0]; rfl
    clear e0 e1 e2
    try simp only [List.append_eq, List.cons_append, List.nil_append]
    go_quiet (fail)
    have J3 := hide (REST.out nq).2
    have B3 := hide (REST.out nq).1
    clear REST z0 z1 z2 z3 p2 p3 f1 f2
    generalize w2.drewN nq = w3 at *
    have RS := hide (reads_any J3.out.cw)
    go_wp2_with fail
    refine RS.out.mono ?_
    rintro r w0 ⟨rfl, e0⟩
    obtain rfl := e0.symm
    have h4 : (w3.alloc (.cells (us st.rd).toArray 29)).heap[w3.heap.size]? = some (.cells (us st.rd).toArray 29 (0, 0)) := heap_new _ _
    have J4 := hide (J3.out.below (Ba.below_alloc w3 (.cells (us st.rd).toArray 29)))
    have B4 := hide (btr B3.out (Ba.below_alloc w3 (.cells (us st.rd).toArray 29)))
    have H4 := hide h4
    clear h4 J3 B3 RS
    generalize w3.alloc (.cells (us st.rd).toArray 29) = w4 at *
    generalize w3.heap.size = L at *
    generalize hn : st.rd.length = n at *
    go_wp2_with fail
    go_loopw [9, 10] (fun s i wr => ∃ k P : Nat, k ≤ 256 ∧ i = .int .i64 (k : Int) ∧ s = .int .i64 (P : Int) ∧ Hid (pos st.rd (k : Int) = P) ∧ J Y0 X R wr st a F tl ∧ wr.heap[L]? = some (.cells (us st.rd).toArray 29 (0, 0)) ∧ Below w.heap.size w wr) (fun _ i _ => 256 - (intOf i).toNat)
    case atStart => exact ⟨0, 0, by decide, rfl, rfl, (pos_nil fun e he => (own_tid (RO.out e he)).1 : pos st.rd 0 = 0), J4.out, H4.out, B4.out⟩
    case round =>
      clear J4 H4 B4
      obtain ⟨k, P, hk, rfl, rfl, hP, j4, h4, b4⟩ := hrel
      have J4 := hide j4
      have H4 := hide h4
      have B4 := hide b4
      clear j4 h4 b4
      by_cases hlt : k < 256
      · have hlt' : (k : Int) < 256 := by omega
        have c0 := (J4.out.rx.cellR hlt).1
        by_cases hF : F k = 0
        · have hF' : (F k == 0) = true := by rw [hF]; rfl
          have PN : Hid (pos st.rd ((k + 1 : Nat) : Int) = P) := by
            show pos st.rd ((k + 1 : Nat) : Int) = P
            rw [show ((k + 1 : Nat) : Int) = (k : Int) + 1 by omega, pos_no SO.out, hP.out]
            intro e he ht
            have h1 := EQ.out.rd e he
            have h2 := own_clk (RO.out e he)
            rw [ht, Int.toNat_natCast, hF] at h1
            omega
          clear hF
          generalize F k = fk at *
          go_wp2_with fail
          go_roundw
          case rel => exact ⟨k + 1, P, by omega, by go_num, rfl, PN.out, J4.out, H4.out, B4.out⟩
          case measure => simp [intOf]; omega
        · have hF' : (F k == 0) = false := beq_eq_false_iff_ne.2 hF
          obtain ⟨x, hx, hxt⟩ := EQ.out.dr k hlt hF
          have hh : has st.rd (k : Int) = true := by
            obtain ⟨i, hi, hix⟩ := mem_nth hx
            exact has_yes hi (by rw [hix]; exact hxt)
          obtain ⟨hp1, hp2⟩ := has_pos SO.out hh
          have PY : Hid (pos st.rd ((k + 1 : Nat) : Int) = P + 1) := by
            show pos st.rd ((k + 1 : Nat) : Int) = P + 1
            rw [show ((k + 1 : Nat) : Int) = (k : Int) + 1 by omega, pos_yes SO.out hh, hP.out]
          rw [hP.out] at hp1 hp2
          have hcl : clkOf (nth st.rd P) = F k := by
            have := EQ.out.rd _ (nth_mem hp1)
            rw [hp2, Int.toNat_natCast] at this
            exact this.symm
          have d0 : wr.cell? ⟨L, P, none⟩ = some (.int .u64 (nth st.rd P)) := by
            rw [cell_of H4.out, List.getElem?_toArray]; exact us_at _ _ hp1
          have TD := hide (fun u => Ep.tid_any (nth st.rd P) (US.out.nth P).1 (US.out.nth P).2 u)
          have CK := hide (fun u => Ep.clk_any (nth st.rd P) (US.out.nth P).1 (US.out.nth P).2 u)
          rw [hp2] at TD
          rw [hcl] at CK
          have hPn : (P : Int) < (n : Int) := by omega
          have hPd : decide ((n : Int) ≤ (P : Int)) = false := by simp; omega
          have hPe : decide (n ≤ P) = false := by simp; omega
          clear hF hx hxt hh hp1 hp2 hcl
          generalize F k = fk at *
          generalize nth st.rd P = ev at *
          go_wp2_with fail
          go_quiet ((first | (go_at_call 33; exact Calls.quiet_of_same (TD.out _)) | (go_at_call 34; exact Calls.quiet_of_same (CK.out _))))
          go_wp2_with fail
          go_roundw
          case rel => exact ⟨k + 1, P + 1, by omega, by go_num, by go_num, PY.out, J4.out.below (bdrew _ _), H4.out, btr B4.out (bdrew _ _)⟩
          case measure => simp [intOf]; omega
      · obtain rfl : k = 256 := by omega
        have hPn : P = n := by
          rw [← hn, ← hP.out]
          exact pos_all fun e he => (own_tid (RO.out e he)).2
        subst hPn
        have t0 := J4.out.rx.cellT.1
        rw [EQ.out.tl] at t0
        have TL := hide (fun u => tailed_any (J4.out.cw.kept (bdrew wr u)))
        have WD := hide (fun u => wide_any (J4.out.cw.kept (bdrew wr u)))
        rw [hn] at WD
        have BE := hide (fun u => btr B4.out (bdrew wr u))
        clear J4 EQ H4 B4
        generalize st.tl = tb at *
        cases tb
        all_goals
          by_cases h1 : 1 < P
          · have h1' : (1 : Int) < (P : Int) := by omega
            have h2 : decide ((1 : Int) < (P : Int)) = true := by simpa using h1'
            have h3 : decide (1 < P) = true := by simpa using h1
            rw [decide_eq_true h1] at WD
            go_wp2_with fail
            go_quiet ((first | (go_at_call 27; exact Calls.quiet_of_same (TL.out _)) | (go_at_call 28; exact Calls.quiet_of_same (WD.out _))))
            go_wp2_with fail
            go_ret
            exact ⟨rfl, BE.out _⟩
          · have h1' : ¬ ((1 : Int) < (P : Int)) := by omega
            have h2 : decide ((1 : Int) < (P : Int)) = false := by simpa using h1'
            have h3 : decide (1 < P) = false := by simpa using h1
            rw [decide_eq_false h1] at WD
            go_wp2_with fail
            go_quiet ((first | (go_at_call 27; exact Calls.quiet_of_same (TL.out _)) | (go_at_call 28; exact Calls.quiet_of_same (WD.out _))))
            go_wp2_with fail
            go_ret
            exact ⟨rfl, BE.out _⟩
  · rw [e1] at z2
    rw [e2] at z3
    have f1 := own_ne0 e0
    have f2 := own_neT e0
    rw [e3, Ep.tid_own _ e0, ← (Ep.rd_own _ e0).2.2.1] at z0
    rw [e4, Ep.clk_own _ e0, ← (Ep.rd_own _ e0).2.2.2.1] at z1
    clear e1 e2 e3 e4
    try simp only [List.append_eq, List.cons_append, List.nil_append]
    go_quiet (fail)
    have J3 := hide (REST.out nq).2
    have B3 := hide (REST.out nq).1
    clear REST z0 z1 z2 z3 p2 p3 f1 f2 e0
    generalize w2.drewN nq = w3 at *
    have RS := hide (reads_any J3.out.cw)
    go_wp2_with fail
    refine RS.out.mono ?_
    rintro r w0 ⟨rfl, e0⟩
    obtain rfl := e0.symm
    have h4 : (w3.alloc (.cells (us st.rd).toArray 29)).heap[w3.heap.size]? = some (.cells (us st.rd).toArray 29 (0, 0)) := heap_new _ _
    have J4 := hide (J3.out.below (Ba.below_alloc w3 (.cells (us st.rd).toArray 29)))
    have B4 := hide (btr B3.out (Ba.below_alloc w3 (.cells (us st.rd).toArray 29)))
    have H4 := hide h4
    clear h4 J3 B3 RS
    generalize w3.alloc (.cells (us st.rd).toArray 29) = w4 at *
    generalize w3.heap.size = L at *
    generalize hn : st.rd.length = n at *
    go_wp2_with fail
    go_loopw [9, 10] (fun s i wr => ∃ k P : Nat, k ≤ 256 ∧ i = .int .i64 (k : Int) ∧ s = .int .i64 (P : Int) ∧ Hid (pos st.rd (k : Int) = P) ∧ J Y0 X R wr st a F tl ∧ wr.heap[L]? = some (.cells (us st.rd).toArray 29 (0, 0)) ∧ Below w.heap.size w wr) (fun _ i _ => 256 - (intOf i).toNat)
    case atStart => exact ⟨0, 0, by decide, rfl, rfl, (pos_nil fun e he => (own_tid (RO.out e he)).1 : pos st.rd 0 = 0), J4.out, H4.out, B4.out⟩
    case round =>
      clear J4 H4 B4
      obtain ⟨k, P, hk, rfl, rfl, hP, j4, h4, b4⟩ := hrel
      have J4 := hide j4
      have H4 := hide h4
      have B4 := hide b4
      clear j4 h4 b4
      by_cases hlt : k < 256
      · have hlt' : (k : Int) < 256 := by omega
        have c0 := (J4.out.rx.cellR hlt).1
        by_cases hF : F k = 0
        · have hF' : (F k == 0) = true := by rw [hF]; rfl
          have PN : Hid (pos st.rd ((k + 1 : Nat) : Int) = P) := by
            show pos st.rd ((k + 1 : Nat) : Int) = P
            rw [show ((k + 1 : Nat) : Int) = (k : Int) + 1 by omega, pos_no SO.out, hP.out]
            intro e he ht
            have h1 := EQ.out.rd e he
            have h2 := own_clk (RO.out e he)
            rw [ht, Int.toNat_natCast, hF] at h1
            omega
          clear hF
          generalize F k = fk at *
          go_wp2_with fail
          go_roundw
          case rel => exact ⟨k + 1, P, by omega, by go_num, rfl, PN.out, J4.out, H4.out, B4.out⟩
          case measure => simp [intOf]; omega
        · have hF' : (F k == 0) = false := beq_eq_false_iff_ne.2 hF
          obtain ⟨x, hx, hxt⟩ := EQ.out.dr k hlt hF
          have hh : has st.rd (k : Int) = true := by
            obtain ⟨i, hi, hix⟩ := mem_nth hx
            exact has_yes hi (by rw [hix]; exact hxt)
          obtain ⟨hp1, hp2⟩ := has_pos SO.out hh
          have PY : Hid (pos st.rd ((k + 1 : Nat) : Int) = P + 1) := by
            show pos st.rd ((k + 1 : Nat) : Int) = P + 1
            rw [show ((k + 1 : Nat) : Int) = (k : Int) + 1 by omega, pos_yes SO.out hh, hP.out]
          rw [hP.out] at hp1 hp2
          have hcl : clkOf (nth st.rd P) = F k := by
            have := EQ.out.rd _ (nth_mem hp1)
            rw [hp2, Int.toNat_natCast] at this
            exact this.symm
          have d0 : wr.cell? ⟨L, P, none⟩ = some (.int .u64 (nth st.rd P)) := by
            rw [cell_of H4.out, List.getElem?_toArray]; exact us_at _ _ hp1
          have TD := hide (fun u => Ep.tid_any (nth st.rd P) (US.out.nth P).1 (US.out.nth P).2 u)
          have CK := hide (fun u => Ep.clk_any (nth st.rd P) (US.out.nth P).1 (US.out.nth P).2 u)
          rw [hp2] at TD
          rw [hcl] at CK
          have hPn : (P : Int) < (n : Int) := by omega
          have hPd : decide ((n : Int) ≤ (P : Int)) = false := by simp; omega
          have hPe : decide (n ≤ P) = false := by simp; omega
          clear hF hx hxt hh hp1 hp2 hcl
          generalize F k = fk at *
          generalize nth st.rd P = ev at *
          go_wp2_with fail
          go_quiet ((first | (go_at_call 33; exact Calls.quiet_of_same (TD.out _)) | (go_at_call 34; exact Calls.quiet_of_same (CK.out _))))
          go_wp2_with fail
          go_roundw
          case rel => exact ⟨k + 1, P + 1, by omega, by go_num, by go_num, PY.out, J4.out.below (bdrew _ _), H4.out, btr B4.out (bdrew _ _)⟩
          case measure => simp [intOf]; omega
      · obtain rfl : k = 256 := by omega
        have hPn : P = n := by
          rw [← hn, ← hP.out]
          exact pos_all fun e he => (own_tid (RO.out e he)).2
        subst hPn
        have t0 := J4.out.rx.cellT.1
        rw [EQ.out.tl] at t0
        have TL := hide (fun u => tailed_any (J4.out.cw.kept (bdrew wr u)))
        have WD := hide (fun u => wide_any (J4.out.cw.kept (bdrew wr u)))
        rw [hn] at WD
        have BE := hide (fun u => btr B4.out (bdrew wr u))
        clear J4 EQ H4 B4
        generalize st.tl = tb at *
        cases tb
        all_goals
          by_cases h1 : 1 < P
          · have h1' : (1 : Int) < (P : Int) := by omega
            have h2 : decide ((1 : Int) < (P : Int)) = true := by simpa using h1'
            have h3 : decide (1 < P) = true := by simpa using h1
            rw [decide_eq_true h1] at WD
            go_wp2_with fail
            go_quiet ((first | (go_at_call 27; exact Calls.quiet_of_same (TL.out _)) | (go_at_call 28; exact Calls.quiet_of_same (WD.out _))))
            go_wp2_with fail
            go_ret
            exact ⟨rfl, BE.out _⟩
          · have h1' : ¬ ((1 : Int) < (P : Int)) := by omega
            have h2 : decide ((1 : Int) < (P : Int)) = false := by simpa using h1'
            have h3 : decide (1 < P) = false := by simpa using h1
            rw [decide_eq_false h1] at WD
            go_wp2_with fail
            go_quiet ((first | (go_at_call 27; exact Calls.quiet_of_same (TL.out _)) | (go_at_call 28; exact Calls.quiet_of_same (WD.out _))))
            go_wp2_with fail
            go_ret
            exact ⟨rfl, BE.out _⟩
end Ce
end Go.Proofs.Ytnbheejahenejaa
