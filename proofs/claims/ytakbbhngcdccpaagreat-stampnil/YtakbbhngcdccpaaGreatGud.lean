/- The gauge's reader, over this seat's program: closing (rule 6). -/
import Derived.Test.YtakbbhngcdccpaaGreatGuc
namespace Go.Proofs.YtakbbhngcdccpaaGreat
open Go.ChangeShapes Go.WideShapes Go.ChangeAt Go.RowKit
namespace Gu
open En Ba

theorem chk_c {e : Ev} (h : chk e = 0) : -1 ≤ e.c ∧ e.c ≤ 511 := by
  have hk : ¬ (e.k < 1 ∨ 13 < e.k) := fun q => by simp [chk, q] at h
  have hb : (ff e && okF e) = true := by
    apply Classical.byContradiction
    intro q
    simp [chk, hk, q] at h
  have hf : ff e = true := by revert hb; cases ff e <;> simp
  have ho : okF e = true := by revert hb; rw [hf]; simp
  have o1 := okF_at ho 1 (by decide)
  obtain ⟨k, g, c, a, v, m, s, o⟩ := e
  simp only at hk
  have hc : k = 1 ∨ k = 2 ∨ k = 3 ∨ k = 4 ∨ k = 5 ∨ k = 6 ∨ k = 7 ∨ k = 8 ∨ k = 9 ∨ k = 10 ∨ k = 11 ∨ k = 12 ∨ k = 13 := by omega
  clear h hk hb ho hf
  rcases hc with rfl | rfl | rfl | rfl | rfl | rfl | rfl | rfl | rfl | rfl | rfl | rfl | rfl <;>
    simp [okA, spn, fl, Ba.nth, inS, ml, mh] at o1 <;>
    (try (by_cases ha : a = -1 <;> simp [ha] at o1)) <;>
    (simp only; omega)
section
variable {w w' : World} {N R mb : Nat} {ev vs : Value} {D : DataW Unit} {cs : List Sv} {s : Gs}
/-- a channel is looked up -/
theorem GR.look (h : GR w N R mb ev vs D cs s) (g : Int) (hg : -1 ≤ g ∧ g ≤ 100000) : ∃ x, (∀ u, Below w.heap.size w u → (Instr.lookup 85 (.map (some mb)) (.int .i64 g) false).run Tryz.prog u = .ok (chV x) u) ∧ ((0 ≤ g ∧ g < cs.length) → cs[g.toNat]? = some x) ∧ Sn x := by
  have key : ∀ u, Below w.heap.size w u → ∃ v, (Instr.lookup 85 (.map (some mb)) (.int .i64 g) false).run Tryz.prog u = .ok v u ∧ ∃ ps, mE v = some (D.atKey (kl g) (chD sv0), ps) := fun u b => by
    obtain ⟨v, ps, h1, h2⟩ := (h.below b).mp.lookup law Tryz.underlying85 (zero_ch u) mE_z (key_kl hg)
    exact ⟨v, h1, ps, h2⟩
  by_cases hin : 0 ≤ g ∧ g < cs.length
  · obtain ⟨x, hx⟩ : ∃ x, cs[g.toNat]? = some x := ⟨_, List.getElem?_eq_getElem (by omega)⟩
    have hat : D.atKey (kl g) (chD sv0) = chD x := by
      have := h.mi.at_ g.toNat x (chD sv0) hx
      rwa [show ((g.toNat : Nat) : Int) = g from by omega] at this
    obtain ⟨v0, -, ps0, h0⟩ := key w (Below.refl _ _)
    rw [hat] at h0
    refine ⟨x, fun u b => ?_, fun _ => hx, (mE_inv h0).2⟩
    obtain ⟨v, h1, ps, h2⟩ := key u b
    rw [hat] at h2
    rw [h1, (mE_inv h2).1]
  · have hat : D.atKey (kl g) (chD sv0) = chD sv0 := h.mi.no hin _
    refine ⟨sv0, fun u b => ?_, fun q => absurd q hin, fun _ => ⟨rfl, rfl, rfl, rfl⟩⟩
    obtain ⟨v, h1, ps, h2⟩ := key u b
    rw [hat] at h2
    rw [h1, (mE_inv h2).1]
/-- a block of a channel's own type is written: the reader stays -/
theorem GR.kb (h : GR w N R mb ev vs D cs s) {C : Nat} {cc : Array Value} (hC : w.heap[C]? = some (.cells cc 116 (0, 0))) (k : KB C w w') : GR w' N R mb ev vs D cs s := by
  have nC : ∀ {b : Nat} {o : Obj}, w.heap[b]? = some o → o ≠ .cells cc 116 (0, 0) → w'.heap[b]? = some o := fun hb ho => k.heap hb (fun q => by rw [q, hC] at hb; cases hb; exact ho rfl)
  refine ⟨h.hN, nC h.hR (fun q => by cases q), own_kb h.st k ?_, ?_, h.mi, h.len, fun i x c hx hc => ?_, h.dj, h.dv⟩
  · rcases h.st.2 with ⟨rfl, -⟩ | ⟨g, cap, cur, rfl, -, q3, -⟩
    · intro e; cases e
    · intro e; cases e; rw [q3] at hC; cases hC
  · obtain ⟨es, ck, hb, r⟩ := h.mp
    exact ⟨es, ck, nC hb (fun q => by cases q), r⟩
  · obtain ⟨v, r⟩ := h.ch i x c hx hc
    refine ⟨v.keep fun hn => ?_, r⟩
    obtain ⟨-, cur, hb, -⟩ := v.row hn
    rw [nC hb (fun q => by cases q), hb]
theorem svs_sl (x : Sv) (h : Sn x) : ∃ so sc, svs x = .slice so x.n sc := by
  unfold svs
  cases hn : x.nil
  · exact ⟨_, _, rfl⟩
  · obtain ⟨-, -, h3, -⟩ := h hn
    exact ⟨none, 0, by rw [h3]; rfl⟩
end
theorem upl_set {α : Type} {l : List α} {i : Nat} (h : i < l.length) (x : α) : upl l i x = l.set i x := by unfold upl; rw [if_pos h]
set_option maxRecDepth 100000 in
set_option maxHeartbeats 6400000 in
theorem clos_any {w : World} {N R c : Nat} {oa : Option Addr} {l : List Ev} {s : Gs} (h : GW w N R (.slice oa l.length c) s) (hA : EsAt w oa l) {i : Nat} {e : Ev} (hi : l[i]? = some e) (hc : -1 ≤ e.c ∧ e.c ≤ 511) (hin : e.k = 3 ∨ e.k = 4 ∨ e.k = 5 → 0 ≤ e.c ∧ e.c < s.ch.length) (hch : s.ch.length ≤ 3000) (hvs : ∀ (j : Nat) d, s.ch[j]? = some d → d.vs.length ≤ 3000) (hNw : N ≤ w.heap.size) :
    Calls Tryz.prog 54 #[.pointer (some ⟨R, 0, none⟩), .int .i64 (i : Int)] w fun r w' => ChP (r6 s.ch e) N R (.slice oa l.length c) s w r w' := by
  obtain ⟨mb, vs, D, cs, h⟩ := h
  have hil : i < l.length := (List.getElem?_eq_some_iff.1 hi).1
  obtain ⟨b1, o1, rfl, -⟩ := hA i e hi
  obtain ⟨p0, p1, p2, p3, p4, p5, p6, p7⟩ := hA.read hi
  have hiM : (i : Int) < (l.length : Int) := by omega
  clear hA hi
  generalize l.length = M at *
  have H1 := hide (h.below (below_alloc w (.cells #[.int .i64 e.k, .int .i64 e.g, .int .i64 e.c, .int .i64 e.a, .int .i64 e.v, .int .i64 e.m, .bool e.s, .bool e.o] 23)))
  have E1 := hide (heap_new w (.cells #[.int .i64 e.k, .int .i64 e.g, .int .i64 e.c, .int .i64 e.a, .int .i64 e.v, .int .i64 e.m, .bool e.s, .bool e.o] 23))
  have B1 := hide (Fb.of (below_alloc w (.cells #[.int .i64 e.k, .int .i64 e.g, .int .i64 e.c, .int .i64 e.a, .int .i64 e.v, .int .i64 e.m, .bool e.s, .bool e.o] 23)) hNw)
  have c0 : w.cell? ⟨R, 0, none⟩ = some (.slice (some ⟨b1, o1, none⟩) M c) := cell_of h.hR 0
  have hRw : R < w.heap.size := heap_lt h.hR
  obtain ⟨R6, hR6⟩ : ∃ R6, r6 s.ch e = R6 := ⟨_, rfl⟩
  rw [hR6]
  unfold r6 at hR6
  simp only at hR6
  clear h
  obtain ⟨E, hE⟩ : ∃ E, w.heap.size = E := ⟨_, rfl⟩
  go_enter Tryz.func54, Tryz.ntmps54
  go_upto_region 2 with fail
  rw [hE] at E1 hRw
  clear p0 p1 p2 p3 p4 p5 p6 p7 hE c0
  generalize w.alloc (.cells #[.int .i64 e.k, .int .i64 e.g, .int .i64 e.c, .int .i64 e.a, .int .i64 e.v, .int .i64 e.m, .bool e.s, .bool e.o] 23) = W1 at *
  obtain ⟨x, lk, hx, hsn⟩ := H1.out.look e.c (by omega)
  obtain ⟨so, sc, hsv⟩ := svs_sl x hsn
  have LK0 : (Instr.lookup 85 (.map (some mb)) (.int .i64 e.c) false).run Tryz.prog W1.drew = .ok (.agg #[.int .i64 x.cap, .slice so x.n sc, .bool x.cl]) W1.drew := by rw [lk _ (bdrew1 _)]; unfold chV; rw [hsv]
  have LK1 : ∀ o, (Instr.lookup 85 (.map (some mb)) (.int .i64 e.c) false).run Tryz.prog (W1.alloc o).drew = .ok (.agg #[.int .i64 x.cap, .slice so x.n sc, .bool x.cl]) (W1.alloc o).drew := fun o => by rw [lk _ (btr (below_alloc W1 o) (bdrew1 _))]; unfold chV; rw [hsv]
  have c2 : W1.drew.cell? ⟨R, 2, none⟩ = some (.map (some mb)) := cell_of H1.out.hR 2
  have c2' : ∀ o, (W1.alloc o).drew.cell? ⟨R, 2, none⟩ = some (.map (some mb)) := fun o => cellB3 c2 (below_alloc _ o)
  have v2 : W1.drew.cell? ⟨E, 2, none⟩ = some (.int .i64 e.c) := cell_of E1.out 2
  have v2' : ∀ o, (W1.alloc o).drew.cell? ⟨E, 2, none⟩ = some (.int .i64 e.c) := fun o => cellB3 v2 (below_alloc _ o)
  have LKX := hide lk
  clear lk
  go_cut [6] (fun s6 wc => ∃ C, s6 = .pointer (some ⟨C, 0, none⟩) ∧ wc.heap[C]? = some (.cells #[.int .i64 x.cap, .slice so x.n sc, .bool x.cl] 116 (0, 0)) ∧ W1.heap.size ≤ C ∧ Below W1.heap.size W1 wc)
  case first =>
    go_region
    all_goals
      go_wp2_with fail
      go_meet
      case rel => exact ⟨W1.heap.size, rfl, heap_below (heap_new W1 _) (bdrew1 _), Nat.le_refl _, btr (below_alloc _ _) (bdrew1 _)⟩
  case rest =>
  obtain ⟨C, rfl, ec, hCs, bl⟩ := hcut
  have hCN : N ≤ C := by have := B1.out.size; omega
  have H2 := hide (H1.out.below bl)
  have E2 := hide (heap_below E1.out bl)
  have C2 := hide ec
  have B2 := hide (B1.out.trans (Fb.of bl (by have := B1.out.size; omega)))
  clear LK0 LK1 c2 c2' v2 v2' ec bl H1 E1 B1 LKX
  rename World => W2
  have v0 : W2.cell? ⟨E, 0, none⟩ = some (.int .i64 e.k) := cell_of E2.out 0
  have v2 : W2.cell? ⟨E, 2, none⟩ = some (.int .i64 e.c) := cell_of E2.out 2
  have v5 : W2.cell? ⟨E, 5, none⟩ = some (.int .i64 e.m) := cell_of E2.out 5
  have v7 : W2.cell? ⟨E, 7, none⟩ = some (.bool e.o) := cell_of E2.out 7
  have y0 : W2.cell? ⟨C, 0, none⟩ = some (.int .i64 x.cap) := cell_of C2.out 0
  have y1 : W2.cell? ⟨C, 1, none⟩ = some (.slice so x.n sc) := cell_of C2.out 1
  have y2 : W2.cell? ⟨C, 2, none⟩ = some (.bool x.cl) := cell_of C2.out 2
  have f2 := frozen_of C2.out 2
  have SAME : Hid (GR W2 N R mb (.slice (some ⟨b1, o1, none⟩) M c) vs D cs { s with ch := s.ch }) := H2.out
  by_cases hk : e.k = 3 ∨ e.k = 4 ∨ e.k = 5
  case neg =>
    have k3 : ¬ e.k = 3 := fun q => hk (.inl q)
    have k4 : ¬ e.k = 4 := fun q => hk (.inr (.inl q))
    have k5 : ¬ e.k = 5 := fun q => hk (.inr (.inr q))
    rw [if_neg k5, if_neg k3, if_neg k4] at hR6
    have d3 : (e.k == 3) = false := by simp [k3]
    have d4 : (e.k == 4) = false := by simp [k4]
    have d5 : (e.k == 5) = false := by simp [k5]
    clear hk k3 k4 k5 hin
    go_wp2_with fail
    go_ret
    exact ChP.yes hR6.symm SAME.out B2.out
  obtain ⟨g0, g1⟩ := hin hk
  obtain ⟨j, hj⟩ : ∃ j : Nat, e.c = (j : Int) := ⟨e.c.toNat, by omega⟩
  have hjl : j < s.ch.length := by omega
  have hxj : cs[j]? = some x := by have := hx ⟨g0, by rw [H2.out.len]; exact g1⟩; rwa [hj, Int.toNat_natCast] at this
  obtain ⟨d, hd⟩ : ∃ d, s.ch[j]? = some d := ⟨_, List.getElem?_eq_getElem hjl⟩
  obtain ⟨vr, hcap, hcl⟩ := H2.out.ch j x d hxj hd
  have hgd : s.ch.getD e.c.toNat chz = d := by rw [hj, Int.toNat_natCast, List.getD_eq_getElem?_getD, hd]; rfl
  rw [hgd] at hR6
  have hxn : x.n = d.vs.length := vr.len
  have hnb : d.vs.length ≤ 3000 := hvs j d hd
  by_cases k5 : e.k = 5
  · rw [if_pos k5] at hR6
    have d5 : (e.k == 5) = true := by simp [k5]
    cases hq : d.cl
    case true =>
      rw [hq, if_pos rfl] at hR6
      rw [hcl, hq] at y2
      clear k5 hk
      go_wp2_with fail
      go_ret
      exact ChP.no hR6.symm B2.out
    rw [hq, if_neg (by simp)] at hR6
    have hxc : x.cl = false := by rw [hcl, hq]
    rw [hxc] at y2
    have C3 := hide (Ba.heap_setCell_same (i := 2) C2.out (.bool true))
    have K3 := (KB.refl C W2).setCell 2 (.bool true)
    have E3 := hide (K3.heap E2.out (fun q => by have := E2.out; rw [q, C2.out] at this; simp at this))
    have H3 := hide (H2.out.kb C2.out K3)
    have B3 := hide (B2.out.kb K3 hCN hNw C2.out (by decide))
    have z2 : (W2.setCell ⟨C, 2, none⟩ (.bool true)).drew.cell? ⟨R, 2, none⟩ = some (.map (some mb)) := cell_of H3.out.hR 2
    have u2 : (W2.setCell ⟨C, 2, none⟩ (.bool true)).drew.cell? ⟨E, 2, none⟩ = some (.int .i64 (j : Int)) := by rw [← hj]; exact cell_of E3.out 2
    have w0 : (W2.setCell ⟨C, 2, none⟩ (.bool true)).drew.cell? ⟨C, 0, none⟩ = some (.int .i64 x.cap) := cell_of C3.out 0
    have w1 : (W2.setCell ⟨C, 2, none⟩ (.bool true)).drew.cell? ⟨C, 1, none⟩ = some (.slice so x.n sc) := cell_of C3.out 1
    have w2 : (W2.setCell ⟨C, 2, none⟩ (.bool true)).drew.cell? ⟨C, 2, none⟩ = some (.bool true) := cell_of C3.out 2
    clear K3 C3 E3
    go_upto_region 8 with fail
    generalize W2.setCell ⟨C, 2, none⟩ (.bool true) = W3 at *
    have H4 := H3.out.below (bdrew1 W3)
    obtain ⟨vr, -, -⟩ := H4.ch j x d hxj hd
    obtain ⟨w4, mu, g4, b4, gr4⟩ := H4.put (i := j) (by rw [H4.len]; omega) (by rw [H4.len]; omega) ⟨x.nil, x.b, x.o, x.n, x.c, x.cap, true⟩ ⟨d.cap, d.vs, true⟩ ⟨vr.sn, vr.len, vr.row⟩ hcap rfl (fun k y hy hne q1 q2 => H4.dj j k x y hxj hy (Ne.symm hne) q1 q2) (fun q => H4.dv j x hxj q) (fun q => H4.noM.2 j x hxj q)
    have MU : (Instr.mapUpdate 85 (.map (some mb)) (.int .i64 (j : Int)) (.agg #[.int .i64 x.cap, .slice so x.n sc, .bool true])).run Tryz.prog W3.drew = .ok () w4 := by rw [← hsv]; exact mu
    rw [upl_set hjl] at g4
    rw [hj, Int.toNat_natCast] at hR6
    have G4 := hide g4
    have B4 := hide ((B3.out.trans (Fb.of (bdrew1 W3) (by have := B3.out.size; omega))).trans b4)
    clear mu g4 b4 gr4 H4 vr H3 B3 hcap hxn hcl hgd
    go_region
    all_goals
      go_wp2_with fail
      go_ret
      exact ChP.yes hR6.symm G4.out B4.out
  rw [if_neg k5] at hR6
  have d5 : (e.k == 5) = false := by simp [k5]
  by_cases k3 : e.k = 3
  · rw [if_pos k3] at hR6
    have d3 : (e.k == 3) = true := by simp [k3]
    rw [hcl] at y2
    clear k3 k5 hk
    cases hq : d.cl
    · rw [hq] at hR6 y2
      rw [if_neg (by simp)] at hR6
      go_wp2_with fail
      go_ret
      exact ChP.yes hR6.symm SAME.out B2.out
    · rw [hq] at hR6 y2
      rw [if_pos rfl] at hR6
      go_wp2_with fail
      go_ret
      exact ChP.no hR6.symm B2.out
  rw [if_neg k3] at hR6
  have d3 : (e.k == 3) = false := by simp [k3]
  have k4 : e.k = 4 := by omega
  rw [if_pos k4] at hR6
  have d4 : (e.k == 4) = true := by simp [k4]
  rw [hcl] at y2
  clear k3 k5 k4 hk
  cases ho : e.o
  · rw [ho] at v7
    rw [if_pos ho] at hR6
    cases hq : d.cl
    · rw [hq] at hR6 y2
      rw [if_neg (by simp)] at hR6
      go_wp2_with fail
      go_ret
      exact ChP.no hR6.symm B2.out
    · rw [hq] at hR6 y2
      rw [hxn] at y1
      obtain ⟨n, hn⟩ : ∃ n, d.vs.length = n := ⟨_, rfl⟩
      rw [hn] at y1 hnb
      by_cases hn0 : n = 0
      · have hz : ((n : Int) == 0) = true := by simp [hn0]
        have hz2 : (n == 0) = true := by simp [hn0]
        rw [if_pos (by rw [Bool.true_and, List.isEmpty_iff, ← List.length_eq_zero_iff, hn, hn0])] at hR6
        clear hn0 hn
        go_wp2_with fail
        go_ret
        exact ChP.yes hR6.symm SAME.out B2.out
      · have hz : ((n : Int) == 0) = false := by simp; omega
        have hz2 : (n == 0) = false := by simp [hn0]
        rw [if_neg (by simp; intro q; rw [q] at hn; exact hn0 hn.symm)] at hR6
        clear hn0 hn
        go_wp2_with fail
        go_ret
        exact ChP.no hR6.symm B2.out
  · rw [ho] at v7
    rw [if_neg (by simp [ho])] at hR6
    by_cases hm1 : e.m = -1
    · have dm : (e.m == -1) = true := by simp [hm1]
      rw [if_pos (.inl hm1)] at hR6
      clear hm1
      go_wp2_with fail
      go_ret
      exact ChP.yes hR6.symm SAME.out B2.out
    · have dm : (e.m == -1) = false := by simp [hm1]
      cases hq : d.cl
      · rw [hq] at hR6 y2
        rw [if_pos (.inr rfl)] at hR6
        clear hm1
        go_wp2_with fail
        go_ret
        exact ChP.yes hR6.symm SAME.out B2.out
      · rw [hq] at hR6 y2
        rw [if_neg (by simp [hm1])] at hR6
        clear hm1
        go_wp2_with fail
        go_ret
        exact ChP.no hR6.symm B2.out
end Gu
end Go.Proofs.YtakbbhngcdccpaaGreat
