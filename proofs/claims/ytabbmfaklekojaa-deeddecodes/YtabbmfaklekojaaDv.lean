/- The reference's Decode of a select, over this seat's program. -/
import Derived.Test.YtabbmfaklekojaaDx
namespace Go.Proofs.Ytabbmfaklekojaa
open Go.ChangeShapes Go.WideShapes Go.ChangeAt Go.RowKit
namespace De
open Ba Re

theorem own_ne' {w : World} {base size : Nat} {e : TypeId} {v : Value} {n g : Nat} {xs : List Value} {c : Array Value} {t : TypeId} {fr : Nat × Nat} (h : w.ownsRow base e size v n xs) (hg : w.heap[g]? = some (.cells c t fr)) (ht : t ≠ e) : some g ≠ v.ownBlock := by
  intro q
  rcases h.2 with ⟨rfl, _⟩ | ⟨b, cap, cur, rfl, _, hb, _⟩
  · simp [Value.ownBlock] at q
  · simp [Value.ownBlock] at q
    subst q
    rw [hg] at hb
    simp at hb
    exact ht hb.2.1
theorem owns_slice {w : World} {base size : Nat} {e : TypeId} {v : Value} {n : Nat} {xs : List Value} (h : w.ownsRow base e size v n xs) : ∃ oa c, v = .slice oa n c := by
  rcases h.2 with ⟨rfl, rfl⟩ | ⟨b, cap, cur, rfl, _⟩
  · exact ⟨none, 0, rfl⟩
  · exact ⟨_, _, rfl⟩
theorem rcheck_len (k a b : Int) (l : List Cs) (d : Bool) (oa : Option Addr) (n c : Nat) (p : Int) (w : World) (hn : l.length = n) (hA : CAt w oa l) (hm : n ≤ maxLen) :
    Calls Try.prog 31 #[.agg #[.int .i64 k, .int .i64 a, .int .i64 b, .slice oa n c, .bool d], .int .i64 p] w fun r w' => r = .returned (.int .i64 (chk ⟨k, a, b, l, d⟩ p)) ∧ Below w.heap.size w w' := by
  subst hn
  exact rcheck_any ⟨k, a, b, l, d⟩ oa c p w hA hm
theorem owns_kb {w w' : World} {base size R : Nat} {e : TypeId} {v : Value} {n : Nat} {xs : List Value} (h : w.ownsRow base e size v n xs) (k : KB R w w') (hR : some R ≠ v.ownBlock) : w'.ownsRow base e size v n xs := by
  refine ⟨h.1, ?_⟩
  rcases h.2 with q | ⟨g, cap, cur, rfl, q2, q3, q4⟩
  · exact .inl q
  · exact .inr ⟨g, cap, cur, rfl, q2, k.heap q3 (fun q => hR (by simp [Value.ownBlock, q])), q4⟩
theorem owns_cat {w : World} {base : Nat} {e : TypeId} {v : Value} {n : Nat} {l : List Cs} (hn : l.length = n) (h : w.ownsRow base e 3 v n (l.flatMap cc)) : ∃ oa c, v = .slice oa n c ∧ CAt w oa l := by
  subst hn
  rcases h.2 with ⟨rfl, h0⟩ | ⟨g, cap, cur, rfl, _, hg, _, _, hcs, htk⟩
  · refine ⟨none, 0, by rw [h0], fun k x hk => ?_⟩
    rw [List.getElem?_eq_none (by omega)] at hk
    cases hk
  · refine ⟨_, cap, rfl, fun k x hk => ⟨g, 0, rfl, ?_⟩⟩
    have hkl : k < l.length := (List.getElem?_eq_some_iff.1 hk).1
    obtain ⟨q0, q1, q2⟩ := flat_cc_at l [] k x hk
    rw [List.append_nil, ← htk] at q0 q1 q2
    rw [List.getElem?_take] at q0 q1 q2
    rw [if_pos (by omega)] at q0 q1 q2
    simp only [Nat.zero_add]
    rw [cell_of hg, cell_of hg, cell_of hg]
    exact ⟨by simpa using q0, by simpa using q1, by simpa using q2⟩
theorem DS.grown {w wr wr' : World} {Z G O : Nat} {k a b : Int} {sl : Value} {d : Bool} {z : Nat} {v : Value} {n : Nat} {xs : List Value} (h : DS w wr Z G O k a b sl d z) (ho : wr.ownsRow w.heap.size 58 3 v n xs) (hg : wr.grownBy wr' v.ownBlock) : DS w wr' Z G O k a b sl d z :=
  ⟨(hg.block G (heap_lt h.gs) (own_ne' ho h.gs (by decide))).trans h.gs, (hg.block O (heap_lt h.op) (own_ne' ho h.op (by decide))).trans h.op, (hg.block Z (heap_lt h.res) (own_ne' ho h.res (by decide))).trans h.res, h.bel.grown hg h.bel.size (fun x hx => (ho.lt x hx).1), h.ne⟩
theorem rc_1 {S : ByteArray} (h : (rup 1 S false).2.2 = true) : (rc S false).2.2 = true := by
  simp only [rc, h, rnum_t]
theorem rc_2 {s : ByteArray} {z n k : Nat} (h1 : tk ((nbs s).drop z) = some (n, k)) (hb : n ≤ 1) (h2 : tk ((nbs s).drop (z + k)) = none) : (rc (s.extract z s.size) false).2.2 = true := by
  simp only [rc, rux_s (m := 1) h1 (by omega), rx_n h2, rnum_t]
theorem rc_3 {s : ByteArray} {z n k c q : Nat} (h1 : tk ((nbs s).drop z) = some (n, k)) (hb : n ≤ 1) (h2 : tk ((nbs s).drop (z + k)) = some (c, q)) (h3 : tk ((nbs s).drop (z + k + q)) = none) : (rc (s.extract z s.size) false).2.2 = true := by
  simp only [rc, rux_s (m := 1) h1 (by omega), rx_s h2, rx_n h3]
theorem rc_4 {s : ByteArray} {z n k c q v r : Nat} (h1 : tk ((nbs s).drop z) = some (n, k)) (hb : n ≤ 1) (h2 : tk ((nbs s).drop (z + k)) = some (c, q)) (h3 : tk ((nbs s).drop (z + k + q)) = some (v, r)) : rc (s.extract z s.size) false = (⟨(n : Int) == 1, (c : Int), (v : Int)⟩, s.extract (z + k + q + r) s.size, false) := by
  simp only [rc, rux_s (m := 1) h1 (by omega), rx_s h2, rx_s h3]
/-- the cases so far: j of them, z bytes read, none failed -/
def CR (s : ByteArray) (S : ByteArray) (j z : Nat) : Prop := (rcs S false j).2.1 = s.extract z s.size ∧ (rcs S false j).2.2 = false
theorem CR.fails {s S : ByteArray} {j z m : Nat} (h : CR s S j z) (hj : j < m) (hf : (rc (s.extract z s.size) false).2.2 = true) : (rcs S false m).2.2 = true := by
  have : (rcs S false (j + 1)).2.2 = true := by
    rw [rcs, h.1, h.2]
    exact hf
  have := rcs_t S false (j + 1) this (m - (j + 1))
  rwa [show j + 1 + (m - (j + 1)) = m by omega] at this
theorem CR.goes {s S : ByteArray} {j z z' : Nat} {x : Cs} (h : CR s S j z) (hr : rc (s.extract z s.size) false = (x, s.extract z' s.size, false)) : CR s S (j + 1) z' ∧ (rcs S false (j + 1)).1 = (rcs S false j).1 ++ [x] := by
  refine ⟨⟨?_, ?_⟩, ?_⟩ <;> rw [rcs, h.1, h.2, hr]

set_option maxRecDepth 100000 in
set_option maxHeartbeats 6400000 in
theorem rdecode_6 (s : ByteArray) (p : Int) (w : World) (hp : okP p = true) (hs : s.size ≤ maxLen) (k : Nat) (ht : tk (nbs s) = some (6, k)) :
    Calls Try.prog 10 #[.string s, .int .i64 p] w fun r w' => RD s p r w' ∧ Below w.heap.size w w' := by
  obtain ⟨p1, p2⟩ := (okP_iff p).1 hp
  have e1 : decide (p < 1) = false := by simp; omega
  have e2 : decide (8 < p) = false := by simp; omega
  have hk := tk_le' ht
  rw [nbs_length] at hk
  have HT := hide ht
  have HS := hide hs
  have i0 : ∀ w, (Instr.index 9 (.string (bs [46, 46])) (.int .i64 0)).run Try.prog w = .ok (.int .u8 46) w := ixA 6 (by decide) (by decide)
  have i1 : ∀ w, (Instr.index 9 (.string (bs [46, 46])) (.int .i64 1)).run Try.prog w = .ok (.int .u8 46) w := ixB 6 (by decide) (by decide)
  have G0 : Hid (GS ((w.alloc (.cells #[.int .i64 0, .int .i64 0, .int .i64 0, .slice none 0 0, .bool false, .int .i64 0] 29)).alloc (.cells #[.int .i64 0, .int .i64 0, .int .i64 0, .slice none 0 0, .bool false, .int .i64 0] 29)) (w.heap.size + 1) 0) := by
    have := heap_new (w.alloc (.cells #[.int .i64 0, .int .i64 0, .int .i64 0, .slice none 0 0, .bool false, .int .i64 0] 29)) (.cells #[.int .i64 0, .int .i64 0, .int .i64 0, .slice none 0 0, .bool false, .int .i64 0] 29)
    rw [World.size_alloc] at this
    exact this
  clear ht hs
  go_enter Try.func10, Try.ntmps10
  go_wp2_with fail
  refine (rnumber_some s (w.heap.size + 1) 0 6 k _ G0.out (Nat.zero_le _) HS.out HT.out).mono ?_
  rw [Nat.zero_add]
  rintro r w1 ⟨rfl, g1, k1⟩
  have D1 := hide (DS.start 6 g1 k1)
  clear g1 k1
  go_wp2_with fail
  refine (row_6 _).mono ?_
  rintro r w2 ⟨rfl, b2⟩
  have D2 := hide (D1.out.below b2)
  clear b2
  cases hd : tk ((nbs s).drop k) with
  | none =>
    have HD := hide hd
    clear hd
    go_wp2_with fail
    refine (rnumber_none s (w.heap.size + 1) k _ D2.out.gs (by omega) HS.out HD.out).mono ?_
    rintro r w3 ⟨rfl, g3, k3⟩
    have D3 := hide (D2.out.reads g3 k3)
    obtain ⟨⟨z0, z1, z2, z3, z4, z5⟩, f0, f1, f2, f3, f4, f5⟩ := six_cells D3.out.res
    clear g3 k3
    go_wp2_with fail
    exact bodyPost_ret (results_row2 Try.results10 _ _ _ _ _ rfl rfl (loadVar_got (six_set D3.out.res _ _ _ _ _ _) rfl)) rfl ⟨.inl ⟨.inl (rop_6d HT.out (by rw [rux_n (by decide) HD.out])), rfl⟩, below_six D3.out.bel D3.out.ne.1 _ _ _ _ _ _⟩
  | some pd =>
    obtain ⟨dv, q⟩ := pd
    have HD := hide hd
    have hq := tk_le' hd
    rw [List.length_drop, nbs_length] at hq
    clear hd
    go_wp2_with fail
    refine (rnumber_some s (w.heap.size + 1) k dv q _ D2.out.gs (by omega) HS.out HD.out).mono ?_
    rintro r w3 ⟨rfl, g3, k3⟩
    have D3 := hide (D2.out.reads g3 k3)
    obtain ⟨⟨z0, z1, z2, z3, z4, z5⟩, f0, f1, f2, f3, f4, f5⟩ := six_cells D3.out.res
    obtain ⟨y0, y1, y2, y3, y4⟩ := op_cells D3.out.op
    have fo := frozen_of D3.out.op 4
    clear g3 k3
    have dn0 : decide ((dv : Int) < 0) = false := by simp
    by_cases hd1 : 1 < dv
    · have dd : decide (1 < (dv : Int)) = true := by simp; omega
      go_wp2_with fail
      exact bodyPost_ret (results_row2 Try.results10 _ _ _ _ _ rfl rfl (loadVar_got (six_set D3.out.res _ _ _ _ _ _) rfl)) rfl ⟨.inl ⟨.inl (rop_6d HT.out (rux_b HD.out (by omega))), rfl⟩, below_six D3.out.bel D3.out.ne.1 _ _ _ _ _ _⟩
    · have dd : decide (1 < (dv : Int)) = false := by simp; omega
      have RUD := hide (rux_s (m := 1) HD.out (by omega))
      have D4 := hide (D3.out.set 4 (.bool ((dv : Int) == 1)) rfl)
      cases hc : tk ((nbs s).drop (k + q)) with
      | none =>
        have HCC := hide hc
        clear hc
        go_wp2_with fail
        refine (rnumber_none s (w.heap.size + 1) (k + q) _ D4.out.gs (by omega) HS.out HCC.out).mono ?_
        rintro r w5 ⟨rfl, g5, k5⟩
        have D5 := hide (D4.out.reads g5 k5)
        obtain ⟨⟨z0, z1, z2, z3, z4, z5⟩, f0, f1, f2, f3, f4, f5⟩ := six_cells D5.out.res
        clear g5 k5
        go_wp2_with fail
        exact bodyPost_ret (results_row2 Try.results10 _ _ _ _ _ rfl rfl (loadVar_got (six_set D5.out.res _ _ _ _ _ _) rfl)) rfl ⟨.inl ⟨.inl (rop_6c HT.out RUD.out (by rw [rux_n (by decide) HCC.out])), rfl⟩, below_six D5.out.bel D5.out.ne.1 _ _ _ _ _ _⟩
      | some pc =>
        obtain ⟨m, t⟩ := pc
        have HCC := hide hc
        have hct := tk_le' hc
        rw [List.length_drop, nbs_length] at hct
        clear hc
        go_wp2_with fail
        refine (rnumber_some s (w.heap.size + 1) (k + q) m t _ D4.out.gs (by omega) HS.out HCC.out).mono ?_
        rintro r w5 ⟨rfl, g5, k5⟩
        have D5 := hide (D4.out.reads g5 k5)
        obtain ⟨⟨z0, z1, z2, z3, z4, z5⟩, f0, f1, f2, f3, f4, f5⟩ := six_cells D5.out.res
        clear g5 k5
        have cn0 : decide ((m : Int) < 0) = false := by simp
        by_cases hm4 : 4 < m
        · have dc : decide (4 < (m : Int)) = true := by simp; omega
          go_wp2_with fail
          exact bodyPost_ret (results_row2 Try.results10 _ _ _ _ _ rfl rfl (loadVar_got (six_set D5.out.res _ _ _ _ _ _) rfl)) rfl ⟨.inl ⟨.inl (rop_6c HT.out RUD.out (rux_b HCC.out (by omega))), rfl⟩, below_six D5.out.bel D5.out.ne.1 _ _ _ _ _ _⟩
        · have dc : decide (4 < (m : Int)) = false := by simp; omega
          have RUC := hide (rux_s (m := 4) HCC.out (by omega))
          have RO := hide (rop_6 HT.out RUD.out RUC.out)
          clear z0 z1 z2 z3 z4 z5 f0 f1 f2 f3 f4 f5
          obtain ⟨i0, hi, hz0, hz1, hz2⟩ := info_parts info_case
          have INF := hide (And.intro hi (And.intro hz0 (And.intro hz1 hz2)))
          clear hi hz0 hz1 hz2 D1 D2 D3 D4 y0 y1 y2 y3 y4 fo G0 HD hq
          have hz5 : k + q + t ≤ s.size := by omega
          generalize hS : s.extract (k + q + t) s.size = S at RO
          have CR0 : Hid (CR s S 0 (k + q + t)) := ⟨hS.symm, rfl⟩
          clear RUC RUD hS HCC hct
          generalize k + q + t = zz at D5 CR0 hz5
          generalize ((dv : Int) == 1) = df at D5 RO ⊢
          have hm4' : m ≤ 4 := by omega
          clear hm4 dc cn0 hd1 dd dn0
          generalize w1.heap.size = O at D5 ⊢
          have OW0 : Hid (w5.ownsRow w.heap.size 58 3 (.slice none 0 0) 0 ((rcs S false 0).1.flatMap cc)) := ⟨rfl, .inl ⟨rfl, rfl⟩⟩
          go_wp2_with fail
          go_loopw [12] (fun i wr => ∃ (j z : Nat) (v : Value), j ≤ m ∧ i = .int .i64 (j : Int) ∧ z ≤ s.size ∧ CR s S j z ∧ DS w wr w.heap.size (w.heap.size + 1) O 6 0 0 v df z ∧ wr.ownsRow w.heap.size 58 3 v j ((rcs S false j).1.flatMap cc)) (fun i _ => m - (intOf i).toNat)
          case atStart => exact ⟨0, zz, _, Nat.zero_le _, rfl, hz5, CR0.out, D5.out, OW0.out⟩
          case round =>
            clear D5 CR0 OW0 hz5
            obtain ⟨j, z, v, hj, rfl, hz, crj, d6, ow6⟩ := hrel
            obtain ⟨oa, c, rfl, cat⟩ := owns_cat (rcs_len S false j) ow6
            have CRJ := hide crj
            have D6 := hide d6
            have OW := hide ow6
            have CA := hide cat
            clear crj d6 ow6 cat
            by_cases hjm : j < m
            · have hjm' : (j : Int) < (m : Int) := by omega
              clear CA
              cases h1 : tk ((nbs s).drop z) with
              | none =>
                have H1 := hide h1
                clear h1
                go_wp2_with fail
                refine (rnumber_none s (w.heap.size + 1) z _ D6.out.gs hz HS.out H1.out).mono ?_
                rintro r w7 ⟨rfl, g7, k7⟩
                have D7 := hide (D6.out.reads g7 k7)
                obtain ⟨⟨z0, z1, z2, z3, z4, z5⟩, f0, f1, f2, f3, f4, f5⟩ := six_cells D7.out.res
                clear g7 k7
                go_wp2_with fail
                exact bodyPost_ret (results_row2 Try.results10 _ _ _ _ _ rfl rfl (loadVar_got (six_set D7.out.res _ _ _ _ _ _) rfl)) rfl ⟨.inl ⟨.inl (by rw [RO.out]; exact CRJ.out.fails hjm (rc_1 (by rw [rux_n (by decide) H1.out]))), rfl⟩, below_six D7.out.bel D7.out.ne.1 _ _ _ _ _ _⟩
              | some p1 =>
                obtain ⟨n1, k1⟩ := p1
                have H1 := hide h1
                have l1 := tk_le' h1
                rw [List.length_drop, nbs_length] at l1
                clear h1
                go_wp2_with fail
                refine (rnumber_some s (w.heap.size + 1) z n1 k1 _ D6.out.gs hz HS.out H1.out).mono ?_
                rintro r w7 ⟨rfl, g7, k7⟩
                have D7 := hide (D6.out.reads g7 k7)
                have OW7 := hide (owns_kb OW.out k7 (own_ne' OW.out D6.out.gs (by decide)))
                clear g7 k7
                have b0 : decide ((n1 : Int) < 0) = false := by simp
                by_cases hn1 : 1 < n1
                · have b1 : decide (1 < (n1 : Int)) = true := by simp; omega
                  obtain ⟨⟨z0, z1, z2, z3, z4, z5⟩, f0, f1, f2, f3, f4, f5⟩ := six_cells D7.out.res
                  go_wp2_with fail
                  exact bodyPost_ret (results_row2 Try.results10 _ _ _ _ _ rfl rfl (loadVar_got (six_set D7.out.res _ _ _ _ _ _) rfl)) rfl ⟨.inl ⟨.inl (by rw [RO.out]; exact CRJ.out.fails hjm (rc_1 (rux_b H1.out (by omega)))), rfl⟩, below_six D7.out.bel D7.out.ne.1 _ _ _ _ _ _⟩
                · have b1 : decide (1 < (n1 : Int)) = false := by simp; omega
                  cases h2 : tk ((nbs s).drop (z + k1)) with
                  | none =>
                    have H2 := hide h2
                    clear h2
                    go_wp2_with fail
                    refine (rnumber_none s (w.heap.size + 1) (z + k1) _ D7.out.gs (by omega) HS.out H2.out).mono ?_
                    rintro r w8 ⟨rfl, g8, k8⟩
                    have D8 := hide (D7.out.reads g8 k8)
                    obtain ⟨⟨z0, z1, z2, z3, z4, z5⟩, f0, f1, f2, f3, f4, f5⟩ := six_cells D8.out.res
                    clear g8 k8
                    go_wp2_with fail
                    exact bodyPost_ret (results_row2 Try.results10 _ _ _ _ _ rfl rfl (loadVar_got (six_set D8.out.res _ _ _ _ _ _) rfl)) rfl ⟨.inl ⟨.inl (by rw [RO.out]; exact CRJ.out.fails hjm (rc_2 H1.out (by omega) H2.out)), rfl⟩, below_six D8.out.bel D8.out.ne.1 _ _ _ _ _ _⟩
                  | some p2 =>
                    obtain ⟨n2, k2⟩ := p2
                    have H2 := hide h2
                    have l2 := tk_le' h2
                    rw [List.length_drop, nbs_length] at l2
                    clear h2
                    go_wp2_with fail
                    refine (rnumber_some s (w.heap.size + 1) (z + k1) n2 k2 _ D7.out.gs (by omega) HS.out H2.out).mono ?_
                    rintro r w8 ⟨rfl, g8, k8⟩
                    have D8 := hide (D7.out.reads g8 k8)
                    have OW8 := hide (owns_kb OW7.out k8 (own_ne' OW7.out D7.out.gs (by decide)))
                    clear g8 k8
                    have b2 : ¬ ((n2 : Int) < 0) := by omega
                    cases h3 : tk ((nbs s).drop (z + k1 + k2)) with
                    | none =>
                      have H3 := hide h3
                      clear h3
                      go_wp2_with fail
                      refine (rnumber_none s (w.heap.size + 1) (z + k1 + k2) _ D8.out.gs (by omega) HS.out H3.out).mono ?_
                      rintro r w9 ⟨rfl, g9, k9⟩
                      have D9 := hide (D8.out.reads g9 k9)
                      obtain ⟨⟨z0, z1, z2, z3, z4, z5⟩, f0, f1, f2, f3, f4, f5⟩ := six_cells D9.out.res
                      clear g9 k9
                      go_wp2_with fail
                      exact bodyPost_ret (results_row2 Try.results10 _ _ _ _ _ rfl rfl (loadVar_got (six_set D9.out.res _ _ _ _ _ _) rfl)) rfl ⟨.inl ⟨.inl (by rw [RO.out]; exact CRJ.out.fails hjm (rc_3 H1.out (by omega) H2.out H3.out)), rfl⟩, below_six D9.out.bel D9.out.ne.1 _ _ _ _ _ _⟩
                    | some p3 =>
                      obtain ⟨n3, k3⟩ := p3
                      have H3 := hide h3
                      have l3 := tk_le' h3
                      rw [List.length_drop, nbs_length] at l3
                      clear h3
                      go_wp2_with fail
                      refine (rnumber_some s (w.heap.size + 1) (z + k1 + k2) n3 k3 _ D8.out.gs (by omega) HS.out H3.out).mono ?_
                      rintro r w9 ⟨rfl, g9, k9⟩
                      have D9 := hide (D8.out.reads g9 k9)
                      have OW9 := hide (owns_kb OW8.out k9 (own_ne' OW8.out D8.out.gs (by decide)))
                      clear g9 k9
                      have b3 : ¬ ((n3 : Int) < 0) := by omega
                      have NX := hide (CRJ.out.goes (rc_4 H1.out (by omega) H2.out H3.out))
                      obtain ⟨x0, x1, x2, x3, x4⟩ := op_cells D9.out.op
                      have DA := hide (D9.out.below (below_alloc w9 (.cells #[.bool ((n1 : Int) == 1), .int .i64 (n2 : Int), .int .i64 (n3 : Int)] 58)))
                      have OWA := hide (owns_below OW9.out (below_alloc w9 (.cells #[.bool ((n1 : Int) == 1), .int .i64 (n2 : Int), .int .i64 (n3 : Int)] 58)))
                      clear D6 D7 D8 OW OW7 OW8
                      go_wp2_with (at_builtin; refine wpList_append_own _ rfl _ _ 22 rfl w.heap.size 58 i0 (.agg #[.bool false, .int .i64 0, .int .i64 0]) 3 24 Try.underlying22 INF.out.1 INF.out.2.1 INF.out.2.2.1 INF.out.2.2.2 rfl (by decide) _ _ _ rfl OWA.out ⟨w9.heap.size, 0, none⟩ 1 1 [.bool ((n1 : Int) == 1), .int .i64 (n2 : Int), .int .i64 (n3 : Int)] rfl rfl ?c1 ?c2 ?c3 ?c4 ?c5 ?_)
                      case c1 =>
                        intro i u hu
                        rw [Addr.add_lit, Nat.zero_add, cell_of (heap_new _ _)]
                        simpa using hu
                      case c2 => intro u hu; simp at hu; rcases hu with rfl | rfl | rfl <;> rfl
                      case c3 => unfold maxLen; omega
                      case c4 => omega
                      case c5 => exact DA.out.bel.size
                      intro v' wb hown hgrow _
                      obtain ⟨ob, cb, rfl⟩ := owns_slice hown
                      have DB := hide (DA.out.grown OWA.out hgrow)
                      have OWB := hide hown
                      clear hown hgrow
                      obtain ⟨u0, u1, u2, u3, u4⟩ := op_cells DB.out.op
                      have fo3 := frozen_of DB.out.op 3
                      clear D9 OW9 DA OWA
                      go_wp2_with fail
                      go_roundw
                      case rel =>
                        refine ⟨j + 1, z + k1 + k2 + k3, _, by omega, by go_num, by omega, NX.out.1, DB.out.set 3 _ rfl, ?_⟩
                        rw [NX.out.2, List.flatMap_append]
                        exact owns_kb OWB.out ((KB.refl O _).setCell 3 _) (own_ne' OWB.out DB.out.op (by decide))
                      case measure => simp [intOf]; omega
            · have hjm' : ¬ ((j : Int) < (m : Int)) := by omega
              obtain rfl : j = m := by omega
              obtain ⟨y0, y1, y2, y3, y4⟩ := op_cells D6.out.op
              have RC := hide CRJ.out.2
              have RZ := hide CRJ.out.1
              have LN := hide (rcs_len S false j)
              generalize hL : (rcs S false j).1 = L at CA LN RO
              generalize hB : (rcs S false j).2 = B at RC RZ RO
              rw [hL] at OW
              clear hL hB CRJ
              go_wp2_with fail
              refine (rcheck_len 6 0 0 L df oa j c p _ LN.out CA.out (by unfold maxLen; omega)).mono ?_
              rintro r w7 ⟨rfl, b7⟩
              have D7 := hide (D6.out.below b7)
              have OW7 := hide (owns_below OW.out b7)
              obtain ⟨⟨z0, z1, z2, z3, z4, z5⟩, f0, f1, f2, f3, f4, f5⟩ := six_cells D7.out.res
              obtain ⟨x0, x1, x2, x3, x4⟩ := op_cells D7.out.op
              have gc := cell_of D7.out.gs 5
              simp at gc
              clear b7
              cases hc : chk ⟨6, 0, 0, L, df⟩ p == 0
              · have hc' : (chk ⟨6, 0, 0, L, df⟩ p != 0) = true := by simp [bne, hc]
                have HC := hide hc
                clear hc
                go_wp2_with fail
                exact bodyPost_ret (results_row2 Try.results10 _ _ _ _ _ rfl rfl (loadVar_got (six_set D7.out.res _ _ _ _ _ _) rfl)) rfl ⟨.inl ⟨.inr (by rw [RO.out]; exact HC.out), rfl⟩, below_six D7.out.bel D7.out.ne.1 _ _ _ _ _ _⟩
              · have hc' : (chk ⟨6, 0, 0, L, df⟩ p != 0) = false := by simp [bne, hc]
                have HC : Hid (chk ⟨6, 0, 0, L, df⟩ p = 0) := by show _ = _; simpa using hc
                clear hc
                go_wp2_with fail
                go_region
                all_goals
                  go_wp2_with fail
                  refine bodyPost_ret (results_row2 Try.results10 _ _ _ _ _ rfl rfl (loadVar_got (heap_below (six_set D7.out.res _ _ _ _ _ _) (bdrew1 _)) rfl)) rfl ⟨.inr ⟨by rw [RO.out]; exact RC.out, by rw [RO.out]; exact HC.out, oa, c, z, hz, by rw [RO.out]; exact RZ.out, by rw [RO.out]; simp only [LN.out]; first | done | rfl | go_num, ?_⟩, btr (below_six D7.out.bel D7.out.ne.1 _ _ _ _ _ _) (bdrew1 _)⟩
                  rw [RO.out]
                  obtain ⟨oa', c', he, hcat⟩ := owns_cat LN.out (owns_kb OW7.out (((((((KB.refl w.heap.size w7).setCell 0 (.int .i64 6)).setCell 1 (.int .i64 0)).setCell 2 (.int .i64 0)).setCell 3 (.slice oa j c)).setCell 4 (.bool df)).setCell 5 (.int .i64 (z : Int))) (own_ne' OW7.out D7.out.res (by decide)))
                  cases he
                  exact hcat.below (bdrew1 _)
end De
end Go.Proofs.Ytabbmfaklekojaa
