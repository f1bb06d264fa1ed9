import Derived.Test.YtblfimobiibmjaaGreatZjAh15
import Derived.ScopeJumps
import Derived.Shelf.Strings.BuilderK
import Derived.Deep.DeepCutAuto
import Derived.Deep.RegionWith
import Derived.Lib.Slices
import Derived.Deep.RegionHeld3
/- The reference's loom: Verdict, Who, over this seat's program. -/
namespace Go.Proofs.YtblfimobiibmjaaGreat
open Go.ChangeShapes Go.WideShapes Go.ChangeAt Go.RowKit
namespace Rlo
open Ba Lo

set_option maxRecDepth 100000 in
set_option maxHeartbeats 1600000 in
theorem rverdict_any (L N : Nat) (col : Nat → Nat) (s : Lm) (w : World) (h : RW w col L N s) :
    Calls Tryz.prog 61 #[.pointer (some ⟨L, 0, none⟩)] w fun r w' => r = .returned (.int .i64 (verd s)) ∧ Below w.heap.size w w' := by
  obtain ⟨C, B, FB, q, pa, pc, oa, oc, bs, Fs, cs, ta, tc, h⟩ := h
  have y17 := cell_of h.hp 17
  have y6 := cell_of h.hp 6
  simp [rcs] at y17 y6
  unfold verd
  cases hp : s.pk
  · rw [hp] at y17
    simp only [Bool.false_eq_true, if_false]
    have OV := hide (Cr.rover_any B FB s.cr w h.cr)
    generalize Cr.ovr s.cr = ov at OV ⊢
    by_cases h0 : ov = 0
    · subst h0
      simp only [ne_eq, not_true, if_false]
      obtain ⟨la, ca, lb, cb, P, D, p0, d0, q0, ⟨-, q2, q3, q4, -⟩, -⟩ := h.cu
      have Y5 := hide (fun u (hb : Below w.heap.size w u) => cell_of (heap_below h.hp hb) 5)
      have Q0 := hide (fun u (hb : Below w.heap.size w u) => heap_below q0 hb)
      have hl : s.p.length = p0.length - P := by rw [q3, List.length_drop]
      rw [hl]
      clear h q0 hl q3
      by_cases hP : p0.length - P = 0
      · rw [if_pos hP]
        have hP' : decide ((p0.length : Int) ≤ (P : Int)) = true := decide_eq_true (by omega)
        go_enter Tryz.func61, Tryz.ntmps61
        go_wp2_with fail
        refine OV.out.mono ?_
        rintro r w1 ⟨rfl, b1⟩
        have z5 := Y5.out w1 b1
        have z0 := cell_of (Q0.out w1 b1) 0
        have z2 := cell_of (Q0.out w1 b1) 2
        simp [rcs] at z5 z0 z2
        have B1 := hide b1
        clear b1 OV Y5 Q0
        go_wp2_with fail
        go_quiet (fail)
        go_wp2_with fail
        go_ret
        exact ⟨rfl, btr B1.out (bdrew _ _)⟩
      · rw [if_neg hP]
        have hP' : decide ((p0.length : Int) ≤ (P : Int)) = false := decide_eq_false (by omega)
        go_enter Tryz.func61, Tryz.ntmps61
        go_wp2_with fail
        refine OV.out.mono ?_
        rintro r w1 ⟨rfl, b1⟩
        have z5 := Y5.out w1 b1
        have z0 := cell_of (Q0.out w1 b1) 0
        have z2 := cell_of (Q0.out w1 b1) 2
        simp [rcs] at z5 z0 z2
        have B1 := hide b1
        clear b1 OV Y5 Q0
        go_wp2_with fail
        go_quiet (fail)
        go_wp2_with fail
        go_ret
        exact ⟨rfl, btr B1.out (bdrew _ _)⟩
    · rw [if_pos h0]
      have h0' : (ov != 0) = true := by simp [h0]
      clear h
      go_enter Tryz.func61, Tryz.ntmps61
      go_wp2_with fail
      refine OV.out.mono ?_
      rintro r w1 ⟨rfl, b1⟩
      have B1 := hide b1
      clear b1
      go_wp2_with fail
      go_ret
      exact ⟨rfl, B1.out⟩
  · rw [hp] at y17
    simp only [if_true]
    clear h
    go_enter Tryz.func61, Tryz.ntmps61
    go_wp2_with fail
    go_ret
    exact ⟨rfl, Below.refl _ _⟩
set_option maxRecDepth 100000 in
set_option maxHeartbeats 1600000 in
theorem rwho_comp (L N : Nat) (col : Nat → Nat) (s : Lm) (w : World) (h : RW w col L N s) (hl : 0 < s.p.length) (ht : nth s.p 0 = -1) :
    Calls Tryz.prog 102 #[.pointer (some ⟨L, 0, none⟩)] w fun r w' => r = .returned (.int .i64 (-1)) ∧ Below w.heap.size w w' := by
  obtain ⟨C, B, FB, q, pa, pc, oa, oc, bs, Fs, cs, ta, tc, h⟩ := h
  obtain ⟨la, ca, lb, cb, P, D, p0, d0, q0, ⟨q1, q2, q3, q4, -⟩, -⟩ := h.cu
  rw [q3, List.length_drop] at hl
  rw [q3, Pk.nth_drop] at ht
  obtain ⟨b, off, rfl, hc⟩ := q1 P (by omega)
  rw [ht] at hc
  have y5 := cell_of h.hp 5
  have z0 := cell_of q0 0
  have z2 := cell_of q0 2
  simp [rcs] at y5 z0 z2
  have hP0 : (0 : Int) ≤ (P : Int) := by omega
  have hP1 : (P : Int) < (p0.length : Int) := by omega
  clear h q1 q0 q3
  go_enter Tryz.func102, Tryz.ntmps102
  go_wp2_with fail
  go_quiet (fail)
  go_wp2_with fail
  go_ret
  exact ⟨rfl, by first | exact bdrew _ _ | exact Below.refl _ _⟩
set_option maxRecDepth 100000 in
set_option maxHeartbeats 1600000 in
theorem rwho_go (L N : Nat) (col : Nat → Nat) (s : Lm) (w : World) (h : RW w col L N s) (hl : 0 < s.p.length) (ht : 0 ≤ nth s.p 0) (hA : 0 < (Cr.abl s.cr).length) (hm : (Cr.abl s.cr).length ≤ 1000) :
    Calls Tryz.prog 102 #[.pointer (some ⟨L, 0, none⟩)] w fun r w' => r = .returned (.int .i64 (whoN s)) ∧ Below w.heap.size w w' := by
  obtain ⟨C, B, FB, q, pa, pc, oa, oc, bs, Fs, cs, ta, tc, h⟩ := h
  obtain ⟨la, ca, lb, cb, P, D, p0, d0, q0, ⟨q1, q2, q3, q4, -⟩, -⟩ := h.cu
  have ew : whoN s = nth (Cr.abl s.cr) ((nth s.p 0).toNat % (Cr.abl s.cr).length) := by
    unfold whoN Pk.ofx
    rw [if_neg (by omega), if_neg (by omega)]
  rw [ew]
  rw [q3, List.length_drop] at hl
  rw [q3, Pk.nth_drop] at ht ⊢
  obtain ⟨b, off, rfl, hc⟩ := q1 P (by omega)
  obtain ⟨n, hn⟩ : ∃ n : Nat, nth p0 P = (n : Int) := ⟨(nth p0 P).toNat, by omega⟩
  rw [hn] at hc ⊢
  rw [Int.toNat_natCast]
  have AB := hide (fun u (hb : Below w.heap.size w u) => Cr.rable_any B FB s.cr u (h.cr.below hb))
  have Y6 := hide (fun u (hb : Below w.heap.size w u) => cell_of (heap_below h.hp hb) 6)
  have y5 := cell_of h.hp 5
  have y6 := cell_of h.hp 6
  have z0 := cell_of q0 0
  have z2 := cell_of q0 2
  simp [rcs] at y5 y6 z0 z2
  have hP0 : (0 : Int) ≤ (P : Int) := by omega
  have hP1 : (P : Int) < (p0.length : Int) := by omega
  have hn1 : ((n : Int) == -1) = false := by rw [beq_eq_false_iff_ne]; omega
  generalize Cr.abl s.cr = l at *
  have hlt := Nat.mod_lt n hA
  have h1 : ((l.length : Int) == 0) = false := by rw [beq_eq_false_iff_ne]; omega
  have h2 : (0 : Int) < (l.length : Int) := by omega
  have h3 : ((n : Int) % (l.length : Int)) = ((n % l.length : Nat) : Int) := by simp
  have h4 : ((n : Int).tmod (l.length : Int)) = ((n % l.length : Nat) : Int) := by rw [Int.tmod_eq_emod_of_nonneg (by omega), h3]
  have hlt' : ((n % l.length : Nat) : Int) < (l.length : Int) := by omega
  generalize n % l.length = m at *
  clear h q1 q0 q3 ew h3
  go_enter Tryz.func102, Tryz.ntmps102
  go_wp2_with fail
  go_quiet (fail)
  go_wp2_with fail
  refine (AB.out _ (bdrew _ _)).mono ?_
  rintro r w1 ⟨ob, d, rfl, a1, b1⟩
  obtain ⟨b', off', rfl, hc'⟩ := a1 m hlt
  have B1 := hide (btr (bdrew w _) b1)
  clear a1 b1 AB Y6
  go_wp2_with fail
  first
    | (go_ret; exact ⟨rfl, B1.out⟩)
    | (go_quiet (fail); go_wp2_with fail; go_ret; exact ⟨rfl, btr B1.out (bdrew _ _)⟩)
end Rlo
end Go.Proofs.YtblfimobiibmjaaGreat
/- A loom has a goroutine do its operation, kind by kind, over this seat's program. -/
namespace Go.Proofs.YtblfimobiibmjaaGreat
open Go.ChangeShapes Go.WideShapes Go.ChangeAt Go.RowKit
namespace Lo
open Ba

/-- a scope in which the run may go to a label that stands further on, and never back -/
theorem wp_scope_forward {P : Program} {a : Act} {w : World} {Q : Exit → Act → World → Prop} {c rest : Code} (l : Nat) (hf : findLabel c l = some rest)
    (first : c.wp P (Exit.jump l (fun a' w' => rest.wp P (Exit.jump l (fun _ _ => False) Q) a' w') Q) a w) : (Code.scope c).wp P Q a w :=
  wp_scope_jumps l _ (fun _ _ => 0) hf first (fun a' w' hJ => Code.wp_mono (fun e a2 w2 h => by
    cases e with
    | goto l' => exact h.2.elim
    | _ => exact h) hJ)
theorem try_tr (s : Lm) (g at_ : Int) (c : Ca) : (tryF s g at_ c).s.tr.length ≤ s.tr.length + 2 := by
  unfold tryF
  split
  · show s.tr.length ≤ _; omega
  · split
    · show ((s.tr ++ [_]) ++ [_]).length ≤ _; simp
    · show (s.tr ++ [_]).length ≤ _; simp
theorem alone_tr (s : Lm) (g : Int) (c : Ca) : (aloneF s g c).s.tr.length ≤ s.tr.length + 3 := by
  have := try_tr s g (-1) c
  unfold aloneF
  split
  · show (tryF s g (-1) c).s.tr.length ≤ _; omega
  · show ((tryF s g (-1) c).s.tr ++ [_]).length ≤ _; simp; omega
theorem choose_tr (s : Lm) (g : Int) (o : OpD) : (chooseF s g o).s.tr.length ≤ s.tr.length + 3 := by
  unfold chooseF
  split
  · refine Nat.le_trans (try_tr _ _ _ _) ?_
    show s.tr.length + 2 ≤ _
    omega
  · split
    · show (s.tr ++ [_]).length ≤ _; simp
    · show (s.tr ++ [_]).length ≤ _; simp
theorem closes_tr {K : Nat} (s : Lm) (g : Int) (k : Nat) (ok : Ok K s) : (closesF s g k).s.tr.length ≤ K + 1001 := by
  have h0 := ok.tn
  unfold closesF
  split
  · show s.tr.length ≤ _; omega
  · rename_i st hst
    split
    · show s.tr.length ≤ _; omega
    · have hl : st.rcv.length ≤ 1000 := ok.wl _ st (Fk.nmB_at hst) false
      have := (Bw.all (g := g) (c := num s k) (l := st.rcv) (Bw.go (s := { s with sts := s.sts.set (k : Int).toNat (some (_root_.Go.Proofs.YtblfimobiibmjaaGreat.Pi.closeS st)) }) ⟨ok.cb, ok.tn⟩ ⟨5, g, num s k, -1, -1, -1, false, false⟩)).tn
      exact Nat.le_trans this (by omega)
end Lo
end Go.Proofs.YtblfimobiibmjaaGreat
/- Copies of cases and events (slices.Clone), over this seat's program. -/
namespace Go.Proofs.YtblfimobiibmjaaGreat
open Go.ChangeShapes Go.WideShapes Go.ChangeAt Go.RowKit
namespace Lo
open Ba

/-- events lie in memory -/
def EsAt (w : World) (oa : Option Addr) (l : List Ev) : Prop :=
  ∀ k e, l[k]? = some e → ∃ b off, oa = some ⟨b, off, none⟩ ∧ ∀ j, j < 8 → w.cell? ⟨b, off + k * 8 + j, none⟩ = (En.evc e)[j]?
theorem EsAt.nil (w : World) (oa : Option Addr) : EsAt w oa [] := fun _ _ h => by simp at h
theorem evc_some (e : Ev) (j : Nat) (h : j < 8) : ∃ v, (En.evc e)[j]? = some v := ⟨_, Array.getElem?_eq_getElem h⟩
theorem EsAt.below {w w' : World} {oa : Option Addr} {l : List Ev} (h : EsAt w oa l) (hb : Below w.heap.size w w') : EsAt w' oa l := by
  intro k e hk
  obtain ⟨b, off, he, hc⟩ := h k e hk
  refine ⟨b, off, he, fun j hj => ?_⟩
  obtain ⟨v, hv⟩ := evc_some e j hj
  have := hc j hj
  rw [hv] at this ⊢
  exact (hb.cell (World.block_lt_of_cell? w _ this)).trans this
theorem EsAt.read {w : World} {b off : Nat} {l : List Ev} {k : Nat} {e : Ev} (h : EsAt w (some ⟨b, off, none⟩) l) (hk : l[k]? = some e) : w.cell? ⟨b, off + k * 8, none⟩ = some (.int .i64 e.k) ∧ w.cell? ⟨b, off + k * 8 + 1, none⟩ = some (.int .i64 e.g) ∧ w.cell? ⟨b, off + k * 8 + 2, none⟩ = some (.int .i64 e.c) ∧ w.cell? ⟨b, off + k * 8 + 3, none⟩ = some (.int .i64 e.a) ∧ w.cell? ⟨b, off + k * 8 + 4, none⟩ = some (.int .i64 e.v) ∧ w.cell? ⟨b, off + k * 8 + 5, none⟩ = some (.int .i64 e.m) ∧ w.cell? ⟨b, off + k * 8 + 6, none⟩ = some (.bool e.s) ∧ w.cell? ⟨b, off + k * 8 + 7, none⟩ = some (.bool e.o) := by
  obtain ⟨b', off', he, hc⟩ := h k e hk
  cases he
  exact ⟨hc 0 (by decide), hc 1 (by decide), hc 2 (by decide), hc 3 (by decide), hc 4 (by decide), hc 5 (by decide), hc 6 (by decide), hc 7 (by decide)⟩
def ccs (l : List De.Cs) : List Value := l.flatMap fun x => [.bool x.send, .int .i64 x.ch, .int .i64 x.val]
theorem ccs_len (l : List De.Cs) : (ccs l).length = l.length * 3 := by
  induction l with
  | nil => rfl
  | cons x l ih => simp [ccs] at ih ⊢; omega
theorem ccs_at : ∀ (l : List De.Cs) (k : Nat) (x : De.Cs), l[k]? = some x → (ccs l)[k * 3]? = some (.bool x.send) ∧ (ccs l)[k * 3 + 1]? = some (.int .i64 x.ch) ∧ (ccs l)[k * 3 + 2]? = some (.int .i64 x.val)
  | [], k, x, h => by simp at h
  | y :: l, 0, x, h => by
    simp at h
    subst h
    simp [ccs]
  | y :: l, k + 1, x, h => by
    have ih := ccs_at l k x (by simpa using h)
    have e : ccs (y :: l) = .bool y.send :: .int .i64 y.ch :: .int .i64 y.val :: ccs l := rfl
    rw [e, show (k + 1) * 3 = k * 3 + 1 + 1 + 1 by omega]
    simpa using ih
theorem ccs_one (l : List De.Cs) : ∀ u ∈ ccs l, u.oneCell' = true := by
  intro u hu
  simp only [ccs, List.mem_flatMap] at hu
  obtain ⟨e, _, hu⟩ := hu
  simp at hu
  rcases hu with rfl | rfl | rfl <;> rfl
theorem ec_at : ∀ (l : List Ev) (k : Nat) (e : Ev), l[k]? = some e → ∀ r, r < 8 → (ec l)[k * 8 + r]? = (En.evc e)[r]?
  | [], k, e, h, r, hr => by simp at h
  | y :: l, 0, e, h, r, hr => by
    simp at h
    subst h
    have e1 : ec (y :: l) = (En.evc y).toList ++ ec l := rfl
    rw [e1, Nat.zero_mul, Nat.zero_add, List.getElem?_append_left (by simp [En.evc]; omega)]
    simp
  | y :: l, k + 1, e, h, r, hr => by
    have ih := ec_at l k e (by simpa using h) r hr
    have e1 : ec (y :: l) = (En.evc y).toList ++ ec l := rfl
    rw [e1, List.getElem?_append_right (by simp [En.evc]; omega), ← ih]
    congr 1
    simp [En.evc]
    omega
theorem cat_cs {w : World} {oa : Option Addr} {cs : List De.Cs} (h : De.CAt w oa cs) : CsAt w oa (ccs cs) := by
  intro j v hj
  have hl := (List.getElem?_eq_some_iff.1 hj).1
  rw [ccs_len] at hl
  have hk : j / 3 < cs.length := by omega
  obtain ⟨b, off, e, h0, h1, h2⟩ := h (j / 3) cs[j / 3] (List.getElem?_eq_getElem hk)
  obtain ⟨q0, q1, q2⟩ := ccs_at cs (j / 3) cs[j / 3] (List.getElem?_eq_getElem hk)
  refine ⟨b, off, e, ?_⟩
  rcases (show j = j / 3 * 3 ∨ j = j / 3 * 3 + 1 ∨ j = j / 3 * 3 + 2 by omega) with z | z | z
  · rw [← z] at q0 h0
    rw [hj] at q0
    cases q0
    exact h0
  · rw [← z] at q1
    rw [show off + j / 3 * 3 + 1 = off + j by omega] at h1
    rw [hj] at q1
    cases q1
    exact h1
  · rw [← z] at q2
    rw [show off + j / 3 * 3 + 2 = off + j by omega] at h2
    rw [hj] at q2
    cases q2
    exact h2
theorem cs_cat {w : World} {b : Nat} {cs : List De.Cs} (h : ∀ j v, (ccs cs)[j]? = some v → w.cell? ⟨b, j, none⟩ = some v) : De.CAt w (some ⟨b, 0, none⟩) cs := by
  intro k x hk
  obtain ⟨q0, q1, q2⟩ := ccs_at cs k x hk
  refine ⟨b, 0, rfl, ?_, ?_, ?_⟩
  · rw [Nat.zero_add]; exact h _ _ q0
  · rw [Nat.zero_add]; exact h _ _ q1
  · rw [Nat.zero_add]; exact h _ _ q2
theorem es_cs {w : World} {oa : Option Addr} {l : List Ev} (h : EsAt w oa l) : CsAt w oa (ec l) := by
  intro j v hj
  have hl := (List.getElem?_eq_some_iff.1 hj).1
  rw [ec_len] at hl
  have hk : j / 8 < l.length := by omega
  obtain ⟨b, off, e, hc⟩ := h (j / 8) l[j / 8] (List.getElem?_eq_getElem hk)
  refine ⟨b, off, e, ?_⟩
  have h1 := ec_at l (j / 8) l[j / 8] (List.getElem?_eq_getElem hk) (j % 8) (by omega)
  have h2 := hc (j % 8) (by omega)
  rw [show j / 8 * 8 + j % 8 = j by omega, hj] at h1
  rw [show off + j / 8 * 8 + j % 8 = off + j by omega, ← h1] at h2
  exact h2
theorem cs_es {w : World} {b off : Nat} {l : List Ev} (h : ∀ j v, (ec l)[j]? = some v → w.cell? ⟨b, off + j, none⟩ = some v) : EsAt w (some ⟨b, off, none⟩) l := by
  intro k e hk
  refine ⟨b, off, rfl, fun j hj => ?_⟩
  have h1 := ec_at l k e hk j hj
  obtain ⟨v, hv⟩ := evc_some e j hj
  rw [hv] at h1 ⊢
  rw [Nat.add_assoc]
  exact h _ _ h1
theorem own_zero (w : World) (t : TypeId) (z : Nat) : (w.alloc (.cells #[] t)).ownsRow w.heap.size t z (.slice (some ⟨w.heap.size, 0, none⟩) 0 0) 0 [] := by
  refine ⟨by simp, .inr ⟨w.heap.size, 0, #[], rfl, Nat.le_refl _, heap_new _ _, Nat.le_refl _, by unfold maxLen; omega, by simp, by simp⟩⟩
theorem own_es {w : World} {base : Nat} {v : Value} {l : List Ev} (h : w.ownsRow base 50 8 v l.length (ec l)) : ∃ ob d, v = .slice ob l.length d ∧ EsAt w ob l ∧ l.length ≤ d ∧ ∀ a, ob = some a → base ≤ a.block := by
  rcases h.2 with ⟨rfl, h0⟩ | ⟨g, cap, cur, rfl, hbase, hg, hc, _, hcs, htk⟩
  · obtain rfl := List.eq_nil_of_length_eq_zero h0
    exact ⟨none, 0, rfl, EsAt.nil _ _, Nat.le_refl _, fun a e => by cases e⟩
  · refine ⟨_, cap, rfl, cs_es fun j v hj => ?_, by omega, fun a e => by cases e; exact hbase⟩
    have hjl := (List.getElem?_eq_some_iff.1 hj).1
    rw [ec_len] at hjl
    rw [Nat.zero_add, cell_of hg]
    rw [← htk, List.getElem?_take_of_lt (by omega)] at hj
    simpa using hj
theorem own_ca {w : World} {base : Nat} {v : Value} {l : List De.Cs} (h : w.ownsRow base 166 3 v l.length (ccs l)) : ∃ ob d, v = .slice ob l.length d ∧ De.CAt w ob l ∧ ∀ a, ob = some a → base ≤ a.block := by
  rcases h.2 with ⟨rfl, h0⟩ | ⟨g, cap, cur, rfl, hbase, hg, hc, _, hcs, htk⟩
  · obtain rfl := List.eq_nil_of_length_eq_zero h0
    exact ⟨none, 0, rfl, (fun k x hk => by simp at hk), fun a e => by cases e⟩
  · refine ⟨_, cap, rfl, cs_cat fun j v hj => ?_, fun a e => by cases e; exact hbase⟩
    have hjl := (List.getElem?_eq_some_iff.1 hj).1
    rw [ccs_len] at hjl
    rw [cell_of hg]
    rw [← htk, List.getElem?_take_of_lt (by omega)] at hj
    simpa using hj
theorem info_case : (Tryz.prog.info? 166).map (fun i => (i.zero, i.size, i.bytes)) = some (some (.agg #[.bool false, .int .i64 0, .int .i64 0]), 3, 24) := by kernel_rfl
theorem info_parts {P : Program} {t : TypeId} {z : Value} {n m : Nat} (h : (P.info? t).map (fun i => (i.zero, i.size, i.bytes)) = some (some z, n, m)) : ∃ i, P.info? t = some i ∧ i.zero = some z ∧ i.size = n ∧ i.bytes = m := by
  cases hi : P.info? t with
  | none => rw [hi] at h; cases h
  | some i =>
    rw [hi] at h
    simp at h
    exact ⟨i, rfl, h⟩
end Lo
end Go.Proofs.YtblfimobiibmjaaGreat
/- A loom's do of whatever operation; Verdict, operation, over this seat's program. -/
namespace Go.Proofs.YtblfimobiibmjaaGreat
open Go.ChangeShapes Go.WideShapes Go.ChangeAt Go.RowKit
namespace Lo
open Ba

/-- an operation as a value, its cases at oc -/
def opV (o : OpD) (oc : Option Addr) (cc : Nat) : Value := .agg #[.int .i64 o.kind, .int .i64 o.a, .int .i64 o.b, .slice oc o.cases.length cc, .bool o.def_]
theorem size_op : (Tryz.prog.info? 64).map (·.size) = some 5 := by kernel_rfl
theorem loadVar_op {w : World} {b : Nat} {c : Array Value} {t : TypeId} (h : w.heap[b]? = some (.cells c t (0, 0))) (hc : c.size = 5) : (loadVar 64 ⟨b, 0, none⟩).run Tryz.prog w = .ok (.agg c) w :=
  run_loadVar_row w b t _ _ _ _ h Tryz.underlying64 rfl (by rw [size_op, hc])
theorem set5 {w : World} {b : Nat} {t : TypeId} {a0 a1 a2 a3 a4 u0 u1 u2 u3 u4 : Value} (h : w.heap[b]? = some (.cells #[a0, a1, a2, a3, a4] t (0, 0))) : (((((w.setCell ⟨b, 0, none⟩ u0).setCell ⟨b, 1, none⟩ u1).setCell ⟨b, 2, none⟩ u2).setCell ⟨b, 3, none⟩ u3).setCell ⟨b, 4, none⟩ u4).heap[b]? = some (.cells #[u0, u1, u2, u3, u4] t (0, 0)) :=
  (Ba.heap_setCell_same (Ba.heap_setCell_same (Ba.heap_setCell_same (Ba.heap_setCell_same (Ba.heap_setCell_same h _) _) _) _) _).trans rfl
theorem cat_keep {w w' : World} {oc : Option Addr} {cs : List De.Cs} (h : De.CAt w oc cs) (hk : ∀ a, oc = some a → a.block < w.heap.size → w'.heap[a.block]? = w.heap[a.block]?) : De.CAt w' oc cs := by
  intro k x hx
  obtain ⟨b, off, e, h0, h1, h2⟩ := h k x hx
  have := hk _ e (World.block_lt_of_cell? w ⟨b, off + k * 3, none⟩ h0)
  simp only at this
  refine ⟨b, off, e, ?_, ?_, ?_⟩
  · rw [← h0]; simp only [World.cell?, this]
  · rw [← h1]; simp only [World.cell?, this]
  · rw [← h2]; simp only [World.cell?, this]
end Lo
end Go.Proofs.YtblfimobiibmjaaGreat
/- A loom's Next, over this seat's program. -/
namespace Go.Proofs.YtblfimobiibmjaaGreat
open Go.ChangeShapes Go.WideShapes Go.ChangeAt Go.RowKit
namespace Lo
open Ba

theorem results_tct {fn : Func} {p u v : Tmp} {ty : TypeId} (h : fn.results = #[.tmp u, .cell p ty, .tmp v]) (tmps : Array Value) (w : World) (g : Nat) (cs : Array Value) (x y : Value)
    (hx : tmps.getD u undef = x) (hp : tmps.getD p undef = .pointer (some ⟨g, 0, none⟩)) (hy : tmps.getD v undef = y) (hl : (loadVar ty ⟨g, 0, none⟩).run Tryz.prog w = .ok (.agg cs) w) :
    (results fn tmps).run Tryz.prog w = .ok (.tuple #[x, .agg cs, y]) w := by
  subst hx
  subst hy
  have hp' : tmps[p]?.getD undef = .pointer (some ⟨g, 0, none⟩) := by simpa using hp
  simp [results, h, hp', asAddr, hl]
theorem below_kb {n D : Nat} {w a b : World} (h : Below n w a) (k : KB D a b) (hD : n ≤ D) (hs : n ≤ a.heap.size) : Below n w b :=
  ⟨k.os.trans h.os, k.tape.trans h.tape, k.output.trans h.output, Nat.le_trans h.size k.size, fun x hx => (k.block x (Nat.lt_of_lt_of_le hx hs) (by omega)).trans (h.block x hx)⟩
theorem below5 {n b : Nat} {w a : World} (h : Below n w a) (hb : n ≤ b) (u0 u1 u2 u3 u4 : Value) : Below n w (((((a.setCell ⟨b, 0, none⟩ u0).setCell ⟨b, 1, none⟩ u1).setCell ⟨b, 2, none⟩ u2).setCell ⟨b, 3, none⟩ u3).setCell ⟨b, 4, none⟩ u4) :=
  ((((h.setCell (p := ⟨b, 0, none⟩) hb _).setCell (p := ⟨b, 1, none⟩) hb _).setCell (p := ⟨b, 2, none⟩) hb _).setCell (p := ⟨b, 3, none⟩) hb _).setCell (p := ⟨b, 4, none⟩) hb _
end Lo
end Go.Proofs.YtblfimobiibmjaaGreat
/- The reference's loom: Op, over this seat's program. -/
namespace Go.Proofs.YtblfimobiibmjaaGreat
open Go.ChangeShapes Go.WideShapes Go.ChangeAt Go.RowKit
namespace Rlo
open Ba Lo

set_option maxRecDepth 100000 in
set_option maxHeartbeats 1600000 in
theorem rop_any (L N : Nat) (col : Nat → Nat) (s : Lm) (k p q : Nat) (xs : Int) (w : World) (h : RW w col L N s) (hx : s.cr[k]? = some ⟨p, q, xs⟩) (hpl : p < s.ps.length) :
    Calls Tryz.prog 106 #[.pointer (some ⟨L, 0, none⟩), .int .i64 (k : Int)] w fun r w' => ∃ oc cc, r = .returned (opV (opOf s k) oc cc) ∧ De.CAt w' oc (opOf s k).cases ∧ (0 < (opOf s k).cases.length → ∀ a, oc = some a → a.block < N) ∧ Below w.heap.size w w' := by
  obtain ⟨C, B, FB, hd, pa, pc, oa, oc, bs, Fs, cs, ta, tc, h⟩ := h
  obtain ⟨P, hP⟩ : ∃ P, s.ps[p]? = some P := ⟨_, List.getElem?_eq_getElem hpl⟩
  obtain ⟨w0, hN, b0, PA⟩ := h.ps
  obtain ⟨ma, mc, hM⟩ := h.cr
  have hkl := (List.getElem?_eq_some_iff.1 hx).1
  obtain ⟨mb, rfl, m0, m1, m2⟩ := hM.at.1 k _ hx
  simp only at m0 m1 m2
  have y2 := cell_of h.hp 2
  have y6 := cell_of h.hp 6
  have x0 := cell_of hM.hp 0
  simp [rcs] at y2 y6 x0
  have hL := h.lt
  have hk0 : (0 : Int) ≤ (k : Int) := by omega
  have hk1 : (k : Int) < (s.cr.length : Int) := by omega
  have e : opOf s k = (P[q]?).getD exitO := by
    unfold opOf
    rw [show Cr.gt s.cr (k : Int) = some ⟨p, q, xs⟩ by unfold Cr.gt; rw [if_neg (by omega), Int.toNat_natCast]; exact hx]
    simp [Cr.one0, hP]
  rw [e]
  obtain ⟨pb, po, qa, qc, hpa, hpc, hO, hPl⟩ := PA p P hP
  subst hpa
  have zp := Sh.cellB hpc b0
  have p0 : (0 : Int) ≤ (p : Int) := by omega
  have p1 : (p : Int) < (s.ps.length : Int) := by omega
  have hB := World.block_lt_of_cell? w _ x0
  have hmb := World.block_lt_of_cell? w _ m0
  have hpb := World.block_lt_of_cell? w _ zp
  simp only at hB hmb hpb
  clear h hM
  by_cases hlt : q < P.length
  · obtain ⟨o, hoq⟩ : ∃ o, P[q]? = some o := ⟨_, List.getElem?_eq_getElem hlt⟩
    rw [hoq]
    simp only [Option.getD_some]
    obtain ⟨ob, oo, ca, cc, hqa, ⟨k0, k1, k2, k3, k4⟩, hCA, -⟩ := hO q o hoq
    subst hqa
    have j0 := Sh.cellB k0 b0
    have j1 := Sh.cellB k1 b0
    have j2 := Sh.cellB k2 b0
    have j3 := Sh.cellB k3 b0
    have j4 := Sh.cellB k4 b0
    have hob := World.block_lt_of_cell? w _ j0
    simp only at hob
    have hq1 : ¬ ((P.length : Int) ≤ (q : Int)) := by omega
    have hq2 : (q : Int) < (P.length : Int) := by omega
    have hq0 : (0 : Int) ≤ (q : Int) := by omega
    have CA := hide hCA
    have B0 := hide b0
    clear hCA hO k0 k1 k2 k3 k4 hpc PA b0
    go_enter Tryz.func106, Tryz.ntmps106
    go_wp2_with fail
    have BB := hide (btr (below_alloc w (.cells #[.int .i64 0, .int .i64 0, .int .i64 0, .slice none 0 0, .bool false] 64)) (below_alloc _ (.cells #[.int .i64 (p : Int), .int .i64 (q : Int), .int .i64 xs] 199)))
    have Z3 := hide (heap_below (heap_new w (.cells #[.int .i64 0, .int .i64 0, .int .i64 0, .slice none 0 0, .bool false] 64)) (below_alloc _ (.cells #[.int .i64 (p : Int), .int .i64 (q : Int), .int .i64 xs] 199)))
    have V3 := hide (En.heap_new2 w (.cells #[.int .i64 0, .int .i64 0, .int .i64 0, .slice none 0 0, .bool false] 64) (.cells #[.int .i64 (p : Int), .int .i64 (q : Int), .int .i64 xs] 199))
    generalize (w.alloc (.cells #[.int .i64 0, .int .i64 0, .int .i64 0, .slice none 0 0, .bool false] 64)).alloc (.cells #[.int .i64 (p : Int), .int .i64 (q : Int), .int .i64 xs] 199) = W at *
    have v0 := cell_of V3.out 0
    have v1 := cell_of V3.out 1
    have c2 := Sh.cellB y2 BB.out
    have cp := Sh.cellB zp BB.out
    have i0 := Sh.cellB j0 BB.out
    have i1 := Sh.cellB j1 BB.out
    have i2 := Sh.cellB j2 BB.out
    have i3 := Sh.cellB j3 BB.out
    have i4 := Sh.cellB j4 BB.out
    have r0 := cell_of Z3.out 0
    have r1 := cell_of Z3.out 1
    have r2 := cell_of Z3.out 2
    have r3 := cell_of Z3.out 3
    have r4 := cell_of Z3.out 4
    have f0 := frozen_of Z3.out 0
    have f1 := frozen_of Z3.out 1
    have f2 := frozen_of Z3.out 2
    have f3 := frozen_of Z3.out 3
    have f4 := frozen_of Z3.out 4
    simp at v0 v1 r0 r1 r2 r3 r4
    clear V3 x0 m0 m1 m2 y6 y2 zp hL hB hmb hpb
    clear j0 j1 j2 j3 j4 hob
    go_wp2_with fail
    go_quiet (fail)
    go_wp2_with fail
    have BE := below5 (btr BB.out (bdrew W nq)) (Nat.le_refl _) (.int .i64 o.kind) (.int .i64 o.a) (.int .i64 o.b) (.slice ca o.cases.length cc) (.bool o.def_)
    refine bodyPost_ret (En.results_row1 Tryz.results106 _ _ _ _ rfl (loadVar_op (set5 (heap_below Z3.out (bdrew W nq))) rfl)) rfl ⟨ca, cc, rfl, (CA.out.below B0.out).below BE, fun h0 a e => ?_, BE⟩
    obtain ⟨b, off, e2, c0, -⟩ := CA.out 0 _ (List.getElem?_eq_getElem h0)
    rw [e] at e2
    cases e2
    exact Nat.lt_of_lt_of_le (World.block_lt_of_cell? w0 _ c0) hN
  · rw [List.getElem?_eq_none (by omega)]
    simp only [Option.getD_none]
    have hq1 : (P.length : Int) ≤ (q : Int) := by omega
    clear hO hpc PA b0
    go_enter Tryz.func106, Tryz.ntmps106
    go_wp2_with fail
    have BB := hide (btr (below_alloc w (.cells #[.int .i64 0, .int .i64 0, .int .i64 0, .slice none 0 0, .bool false] 64)) (below_alloc _ (.cells #[.int .i64 (p : Int), .int .i64 (q : Int), .int .i64 xs] 199)))
    have Z3 := hide (heap_below (heap_new w (.cells #[.int .i64 0, .int .i64 0, .int .i64 0, .slice none 0 0, .bool false] 64)) (below_alloc _ (.cells #[.int .i64 (p : Int), .int .i64 (q : Int), .int .i64 xs] 199)))
    have V3 := hide (En.heap_new2 w (.cells #[.int .i64 0, .int .i64 0, .int .i64 0, .slice none 0 0, .bool false] 64) (.cells #[.int .i64 (p : Int), .int .i64 (q : Int), .int .i64 xs] 199))
    generalize (w.alloc (.cells #[.int .i64 0, .int .i64 0, .int .i64 0, .slice none 0 0, .bool false] 64)).alloc (.cells #[.int .i64 (p : Int), .int .i64 (q : Int), .int .i64 xs] 199) = W at *
    have v0 := cell_of V3.out 0
    have v1 := cell_of V3.out 1
    have c2 := Sh.cellB y2 BB.out
    have cp := Sh.cellB zp BB.out
    have r0 := cell_of Z3.out 0
    have r1 := cell_of Z3.out 1
    have r2 := cell_of Z3.out 2
    have r3 := cell_of Z3.out 3
    have r4 := cell_of Z3.out 4
    have f0 := frozen_of Z3.out 0
    have f1 := frozen_of Z3.out 1
    have f2 := frozen_of Z3.out 2
    have f3 := frozen_of Z3.out 3
    have f4 := frozen_of Z3.out 4
    simp at v0 v1 r0 r1 r2 r3 r4
    clear V3 x0 m0 m1 m2 y6 y2 zp hL hB hmb hpb
    go_wp2_with fail
    go_quiet (fail)
    go_wp2_with fail
    have BE := below5 (btr BB.out (bdrew W nq)) (Nat.le_refl _) (.int .i64 9) (.int .i64 0) (.int .i64 0) (.slice none 0 0) (.bool false)
    exact bodyPost_ret (En.results_row1 Tryz.results106 _ _ _ _ rfl (loadVar_op (set5 (heap_below Z3.out (bdrew W nq))) rfl)) rfl ⟨none, 0, rfl, (fun k x hk => by simp [exitO] at hk), (fun _ a e => by cases e), BE⟩
end Rlo
end Go.Proofs.YtblfimobiibmjaaGreat
/- A loom's Step, over this seat's program. -/
namespace Go.Proofs.YtblfimobiibmjaaGreat
open Go.ChangeShapes Go.WideShapes Go.ChangeAt Go.RowKit
namespace Lo
open Ba

theorem kn_le {n : Nat} (h : n ≤ 200) : 2 * n * n + 2 * n ≤ 80400 := by
  have : n * n ≤ 200 * 200 := Nat.mul_le_mul h h
  have e : 2 * n * n = 2 * (n * n) := Nat.mul_assoc 2 n n
  omega
theorem Inv.n200 {sc : Sh.Sc} {n : Nat} {s : Lm} (h : Sh.schk sc = 0) (i : Inv sc n s) : n ≤ 200 := by
  have := i.le
  have := (schk_ok h).2.2.1
  omega
theorem Inv.ok {sc : Sh.Sc} {n : Nat} {s : Lm} (h : Sh.schk sc = 0) (i : Inv sc n s) : Ok (2 * n * n + 2 * n) s := by
  have hn := i.n200 h
  refine ⟨i.b.bw.cb, i.b.bw.tn, fun k st e => ?_, fun k st e b => ?_, ?_, i.d⟩
  · have := i.b.sb k st e
    omega
  · have := i.b.sb k st e
    unfold _root_.Go.Proofs.YtblfimobiibmjaaGreat.Pi.own
    split <;> omega
  · have := i.b.md
    omega
theorem cat_tr {col col' : Nat → Nat} {w w' : World} {oc : Option Addr} {cs : List De.Cs} (h : De.CAt w oc cs) (hc : 0 < cs.length → ∀ a, oc = some a → col a.block = 7) (t : Tr col col' w w') : De.CAt w' oc cs ∧ (0 < cs.length → ∀ a, oc = some a → col' a.block = 7) := by
  refine ⟨fun k x hx => ?_, fun h0 a e => ?_⟩
  · obtain ⟨b, off, e, h0, h1, h2⟩ := h k x hx
    have h7 := hc (Nat.lt_of_le_of_lt (Nat.zero_le k) (List.getElem?_eq_some_iff.1 hx).1) _ e
    exact ⟨b, off, e, t.cell h0 h7, t.cell h1 h7, t.cell h2 h7⟩
  · obtain ⟨b, off, e2, q, _⟩ := h 0 cs[0] (List.getElem?_eq_getElem h0)
    rw [e] at e2
    cases e2
    exact (t.old b (World.block_lt_of_cell? w _ q)).trans (hc h0 _ e)
theorem tail_es {w : World} {g cap : Nat} {l : List Ev} {n : Nat} (h : w.ownsRow 0 50 8 (.slice (some ⟨g, 0, none⟩) l.length cap) l.length (ec l)) : EsAt w (some ⟨g, n * 8, none⟩) (l.drop n) := by
  obtain ⟨ob, d, e, hE, _⟩ := own_es h
  cases e
  intro k e hk
  rw [List.getElem?_drop] at hk
  obtain ⟨b, off, e2, hc⟩ := hE (n + k) e hk
  cases e2
  refine ⟨g, n * 8, rfl, fun j hj => ?_⟩
  have := hc j hj
  rw [← this]
  congr 2
  rw [Nat.add_mul]
  omega
end Lo
end Go.Proofs.YtblfimobiibmjaaGreat
/- The reference's loom: Step, over this seat's program. -/
namespace Go.Proofs.YtblfimobiibmjaaGreat
open Go.ChangeShapes Go.WideShapes Go.ChangeAt Go.RowKit
namespace Rlo
open Ba Lo

set_option maxRecDepth 100000 in
set_option maxHeartbeats 1600000 in
theorem rstep_over (L N : Nat) (col : Nat → Nat) (s : Lm) (w : World) (h : RW w col L N s) (hv : verd s ≠ 0) :
    Calls Tryz.prog 60 #[.pointer (some ⟨L, 0, none⟩)] w fun r w' => r = .returned (.bool false) ∧ Below w.heap.size w w' := by
  have VD := hide (rverdict_any L N col s w h)
  have hv' : (verd s != 0) = true := by simp [hv]
  generalize verd s = v at VD hv'
  clear h
  go_enter Tryz.func60, Tryz.ntmps60
  go_wp2_with fail
  refine VD.out.mono ?_
  rintro r w1 ⟨rfl, b1⟩
  have B1 := hide b1
  clear b1
  go_wp2_with fail
  go_ret
  exact ⟨rfl, B1.out⟩
set_option maxRecDepth 100000 in
set_option maxHeartbeats 1600000 in
theorem rstep_comp (L N : Nat) (col : Nat → Nat) (s : Lm) (w : World) (h : RW w col L N s) (hv : verd s = 0) (hl : 0 < s.p.length) (ht : nth s.p 0 = -1) (htr : s.tr.length ≤ 1000000) :
    Calls Tryz.prog 60 #[.pointer (some ⟨L, 0, none⟩)] w fun r w' => r = .returned (.bool true) ∧ ∃ col', RW w' col' L N (tellS { s with p := s.p.tail } (bareE 13 (-1))) ∧ Tq col col' w w' := by
  have VD := hide (rverdict_any L N col s w h)
  rw [hv] at VD
  have H := hide h
  clear h
  go_enter Tryz.func60, Tryz.ntmps60
  go_wp2_with fail
  refine VD.out.mono ?_
  rintro r w1 ⟨rfl, b1⟩
  obtain ⟨col1, h1, t1, -⟩ := H.out.below b1
  have T1 := hide t1
  have WH := hide (rwho_comp L N col1 s w1 h1 hl ht)
  have H1 := hide h1
  clear b1 h1 t1 VD
  go_wp2_with fail
  refine WH.out.mono ?_
  rintro r w2 ⟨rfl, b2⟩
  obtain ⟨col2, h2, t2, -⟩ := H1.out.below b2
  obtain ⟨C, B, FB, hd, pa, pc, oa, oc, bs, Fs, cs, ta, tc, h2⟩ := h2
  have T2 := hide (T1.out.trans t2)
  have y5 := cell_of h2.hp 5
  simp [rcs] at y5
  have NX := hide (Pk.rnext_any C N s.p s.d w2 h2.cu h2.nc)
  have H2 := hide h2
  clear b2 h2 t2 WH
  go_wp2_with fail
  refine NX.out.mono ?_
  rintro r w3 ⟨rfl, cu3, kb3⟩
  obtain ⟨col3, h3, t3⟩ := H2.out.cursor cu3 kb3
  have T3 := hide (T2.out.trans t3)
  have H3 := hide h3
  clear cu3 kb3 h3 t3 NX y5
  go_wp2_with fail
  refine (bare_r 13 (-1) _).mono ?_
  rintro r w4 ⟨rfl, b4⟩
  unfold En.evv En.evc bareE
  obtain ⟨col4, h4, t4, -⟩ := H3.out.below b4
  have T4 := hide (T3.out.trans t4)
  have NO := hide (note_any L N col4 _ (bareE 13 (-1)) w4 h4.lw htr)
  unfold En.evv En.evc at NO
  simp only [bareE] at NO
  clear b4 h4 t4
  go_wp2_with fail
  refine NO.out.mono ?_
  rintro r w5 ⟨rfl, col5, h5, t5⟩
  have H5 := hide h5
  have T5 := hide (T4.out.trans t5)
  clear h5 t5 NO
  go_wp2_with fail
  go_ret
  exact ⟨rfl, col5, H5.out, T5.out⟩
set_option maxRecDepth 100000 in
set_option maxHeartbeats 6400000 in
theorem rstep_op (L N : Nat) (col : Nat → Nat) (s : Lm) (K k p q : Nat) (xs n : Int) (w : World) (h : RW w col L N s) (ok : Ok K s) (hK : K ≤ 90000) (hv : verd s = 0) (hl : 0 < s.p.length) (ht : 0 ≤ nth s.p 0) (hA : 0 < (Cr.abl s.cr).length) (hm : (Cr.abl s.cr).length ≤ 1000)
    (hw : whoN s = (k : Int)) (hx : s.cr[k]? = some ⟨p, q, xs⟩) (hpl : p < s.ps.length) (ho : De.chk (opOf s (k : Int)) n = 0) (wb : WB s) (R : Lm) (hR : R = doF { s with p := s.p.tail } (k : Int) (opOf s (k : Int))) :
    Calls Tryz.prog 60 #[.pointer (some ⟨L, 0, none⟩)] w fun r w' => r = .returned (.bool true) ∧ ∃ col', RW w' col' L N R ∧ Tq col col' w w' := by
  have VD := hide (rverdict_any L N col s w h)
  rw [hv] at VD
  have H := hide h
  have OK : Hid (Ok K { s with p := s.p.tail }) := ⟨ok.cb, ok.tn, ok.sm, ok.wl, ok.md, ok.dd⟩
  have WBH : Hid (WB { s with p := s.p.tail }) := wb
  have HR := hide hR
  have HO := hide ho
  have HL := hide (And.intro hl (And.intro ht (And.intro hA hm)))
  have HW := hide hw
  have HX := hide hx
  have k0 : ¬ ((k : Int) < 0) := by omega
  have hoe : opOf { s with p := s.p.tail } (k : Int) = opOf s (k : Int) := rfl
  have RO := hide (fun (c : Nat → Nat) (u : World) (z : RW u c L N { s with p := s.p.tail }) => rop_any L N c { s with p := s.p.tail } k p q xs u z hx hpl)
  rw [hoe] at RO
  generalize opOf s (k : Int) = o at *
  clear h ok hR ho hl ht hA hm hw hx wb hoe
  unfold opV at RO
  go_enter Tryz.func60, Tryz.ntmps60
  go_wp2_with fail
  refine VD.out.mono ?_
  rintro r w1 ⟨rfl, b1⟩
  obtain ⟨col1, h1, t1, -⟩ := H.out.below b1
  have T1 := hide t1
  have WH := hide (rwho_go L N col1 s w1 h1 HL.out.1 HL.out.2.1 HL.out.2.2.1 HL.out.2.2.2)
  rw [HW.out] at WH
  have H1 := hide h1
  clear b1 h1 t1 VD
  go_wp2_with fail
  refine WH.out.mono ?_
  rintro r w2 ⟨rfl, b2⟩
  obtain ⟨col2, h2, t2, -⟩ := H1.out.below b2
  obtain ⟨C, B, FB, hd, pa, pc, oa, oc0, bs, Fs, cs0, ta, tc, h2⟩ := h2
  have T2 := hide (T1.out.trans t2)
  have y5 := cell_of h2.hp 5
  simp [rcs] at y5
  have NX := hide (Pk.rnext_any C N s.p s.d w2 h2.cu h2.nc)
  have H2 := hide h2
  clear b2 h2 t2 WH
  go_wp2_with fail
  refine NX.out.mono ?_
  rintro r w3 ⟨rfl, cu3, kb3⟩
  obtain ⟨col3, h3, t3⟩ := H2.out.cursor cu3 kb3
  have T3 := hide (T2.out.trans t3)
  have RO3 := hide (RO.out col3 w3 h3.lw)
  have H3 := hide h3
  clear cu3 kb3 h3 t3 NX y5 RO H1 H2 T1 T2
  go_wp2_with fail
  refine RO3.out.mono ?_
  rintro r w4 ⟨oc, cc, rfl, ca4, nb4, b4⟩
  obtain ⟨kind, a, b, cs, df⟩ := o
  simp only at ca4 nb4 ⊢
  obtain ⟨col5, h5, t5, -⟩ := H3.out.below (btr b4 (below_alloc w4 (.cells #[.int .i64 kind, .int .i64 a, .int .i64 b, .slice oc cs.length cc, .bool df] 64)))
  have T5 := hide (T3.out.trans t5)
  have CA := hide (ca4.below (below_alloc w4 (.cells #[.int .i64 kind, .int .i64 a, .int .i64 b, .slice oc cs.length cc, .bool df] 64)))
  have NB := hide nb4
  obtain ⟨-, hk, h4, ha, hb, -, hcs⟩ := op_ok HO.out
  simp only at hk h4 ha hb hcs
  have HCS := hide hcs
  have H5 := hide h5.lw
  clear ca4 nb4 b4 h5 t5 RO3 H3 T3 HL HW HX HO hcs
  rcases (show kind = 1 ∨ kind = 2 ∨ kind = 3 ∨ kind = 4 ∨ kind = 5 ∨ kind = 6 ∨ kind = 7 ∨ kind = 8 ∨ kind = 9 by omega) with rfl | rfl | rfl | rfl | rfl | rfl | rfl | rfl | rfl
  · have CL := hide (other_spawn L N col5 { s with p := s.p.tail } K (k : Int) a b oc cs.length cc df _ H5.out OK.out (by omega))
    have RE : Hid (R = goS { s with p := s.p.tail, cr := Cr.spL s.cr a } ⟨1, (k : Int), -1, -1, a, Cr.spV s.cr a, false, false⟩) := by
      show _ = _
      rw [HR.out]
      rfl
    rw [← RE.out] at CL
    clear hk ha hb HR RE
    go_wp2_with fail
    refine CL.out.mono ?_
    rintro r w6 ⟨rfl, col6, h6, t6⟩
    have H6 := hide h6
    have T6 := hide (T5.out.trans t6)
    clear h6 t6 CL
    go_wp2_with fail
    go_ret
    exact ⟨rfl, col6, H6.out, T6.out⟩
  · simp [De.mA, De.mB] at ha hb
    obtain ⟨ka, rfl⟩ : ∃ ka : Nat, a = (ka : Int) := ⟨a.toNat, by omega⟩
    obtain ⟨kb, rfl⟩ : ∃ kb : Nat, b = (kb : Int) := ⟨b.toNat, by omega⟩
    have CL := hide (other_make L N col5 { s with p := s.p.tail } K (k : Int) ka kb (by omega) (by omega) oc cs.length cc df _ H5.out OK.out (by omega))
    have RE : Hid (R = goS (opensS { s with p := s.p.tail } ka kb) ⟨2, (k : Int), s.md, -1, kb, -1, false, false⟩) := by
      show _ = _
      rw [HR.out]
      rfl
    rw [← RE.out] at CL
    clear hk ha hb HR RE
    go_wp2_with fail
    refine CL.out.mono ?_
    rintro r w6 ⟨rfl, col6, h6, t6⟩
    have H6 := hide h6
    have T6 := hide (T5.out.trans t6)
    clear h6 t6 CL
    go_wp2_with fail
    go_ret
    exact ⟨rfl, col6, H6.out, T6.out⟩
  · simp [De.mA] at ha
    obtain ⟨ka, rfl⟩ : ∃ ka : Nat, a = (ka : Int) := ⟨a.toNat, by omega⟩
    have CL := hide (alone_r L N col5 { s with p := s.p.tail } K (k : Int) true ka b _ H5.out OK.out (by omega) (by omega))
    have RE : Hid (R = aloneR { s with p := s.p.tail } (k : Int) ⟨true, ka, b⟩) := by
      show _ = _
      rw [HR.out]
      rw [alone_is]
      rfl
    rw [← RE.out] at CL
    clear hk ha hb HR RE
    go_wp2_with fail
    refine CL.out.mono ?_
    rintro r w6 ⟨rfl, col6, h6, t6⟩
    have H6 := hide h6
    have T6 := hide (T5.out.trans t6)
    clear h6 t6 CL
    go_wp2_with fail
    go_ret
    exact ⟨rfl, col6, H6.out, T6.out⟩
  · simp [De.mA] at ha
    obtain ⟨ka, rfl⟩ : ∃ ka : Nat, a = (ka : Int) := ⟨a.toNat, by omega⟩
    have CL := hide (alone_r L N col5 { s with p := s.p.tail } K (k : Int) false ka 0 _ H5.out OK.out (by omega) (by omega))
    have RE : Hid (R = aloneR { s with p := s.p.tail } (k : Int) ⟨false, ka, 0⟩) := by
      show _ = _
      rw [HR.out]
      rw [alone_is, alone_fine _ _ _ rfl]
      rfl
    rw [← RE.out] at CL
    clear hk ha hb HR RE
    go_wp2_with fail
    refine CL.out.mono ?_
    rintro r w6 ⟨rfl, col6, h6, t6⟩
    have H6 := hide h6
    have T6 := hide (T5.out.trans t6)
    clear h6 t6 CL
    go_wp2_with fail
    go_ret
    exact ⟨rfl, col6, H6.out, T6.out⟩
  · simp [De.mA] at ha
    obtain ⟨ka, rfl⟩ : ∃ ka : Nat, a = (ka : Int) := ⟨a.toNat, by omega⟩
    have CL := hide (shut_any L N col5 { s with p := s.p.tail } K (k : Int) ka _ H5.out OK.out hK (by omega) (by omega) WBH.out)
    have RE : Hid (R = shutR { s with p := s.p.tail } (k : Int) ka) := by
      show _ = _
      rw [HR.out]
      rfl
    rw [← RE.out] at CL
    clear hk ha hb HR RE
    go_wp2_with fail
    refine CL.out.mono ?_
    rintro r w6 ⟨rfl, col6, h6, t6⟩
    have H6 := hide h6
    have T6 := hide (T5.out.trans t6)
    clear h6 t6 CL
    go_wp2_with fail
    go_ret
    exact ⟨rfl, col6, H6.out, T6.out⟩
  · have CL := hide (choose_r L N col5 { s with p := s.p.tail } K (k : Int) 6 a b cs df oc cc _ H5.out OK.out (by omega) CA.out NB.out h4 (fun c hc => (HCS.out c hc).1))
    have RE : Hid (R = chooseR { s with p := s.p.tail } (k : Int) ⟨6, a, b, cs, df⟩) := by
      show _ = _
      rw [HR.out]
      rw [choose_is _ _ _ h4 OK.out.dd]
      rfl
    rw [← RE.out] at CL
    clear hk ha hb HR RE
    go_wp2_with fail
    refine CL.out.mono ?_
    rintro r w6 ⟨rfl, col6, h6, t6⟩
    have H6 := hide h6
    have T6 := hide (T5.out.trans t6)
    clear h6 t6 CL
    go_wp2_with fail
    go_ret
    exact ⟨rfl, col6, H6.out, T6.out⟩
  · have CL := hide (other_read L N col5 { s with p := s.p.tail } K (k : Int) a b oc cs.length cc df _ H5.out OK.out (by omega))
    have RE : Hid (R = goS { s with p := s.p.tail } ⟨9, (k : Int), -1, -1, a, -1, false, false⟩) := by
      show _ = _
      rw [HR.out]
      rfl
    rw [← RE.out] at CL
    clear hk ha hb HR RE
    go_wp2_with fail
    refine CL.out.mono ?_
    rintro r w6 ⟨rfl, col6, h6, t6⟩
    have H6 := hide h6
    have T6 := hide (T5.out.trans t6)
    clear h6 t6 CL
    go_wp2_with fail
    go_ret
    exact ⟨rfl, col6, H6.out, T6.out⟩
  · have CL := hide (other_write L N col5 { s with p := s.p.tail } K (k : Int) a b oc cs.length cc df _ H5.out OK.out (by omega))
    have RE : Hid (R = goS { s with p := s.p.tail } ⟨10, (k : Int), -1, -1, a, -1, false, false⟩) := by
      show _ = _
      rw [HR.out]
      rfl
    rw [← RE.out] at CL
    clear hk ha hb HR RE
    go_wp2_with fail
    refine CL.out.mono ?_
    rintro r w6 ⟨rfl, col6, h6, t6⟩
    have H6 := hide h6
    have T6 := hide (T5.out.trans t6)
    clear h6 t6 CL
    go_wp2_with fail
    go_ret
    exact ⟨rfl, col6, H6.out, T6.out⟩
  · have CL := hide (other_exit L N col5 { s with p := s.p.tail } K (k : Int) a b oc cs.length cc df _ H5.out OK.out (by omega))
    have RE : Hid (R = tellS { s with p := s.p.tail, cr := Cr.chL s.cr (k : Int) 0 2 0 } (bareE 11 (k : Int))) := by
      show _ = _
      rw [HR.out]
      rfl
    rw [← RE.out] at CL
    clear hk ha hb HR RE
    go_wp2_with fail
    refine CL.out.mono ?_
    rintro r w6 ⟨rfl, col6, h6, t6⟩
    have H6 := hide h6
    have T6 := hide (T5.out.trans t6)
    clear h6 t6 CL
    go_wp2_with fail
    go_ret
    exact ⟨rfl, col6, H6.out, T6.out⟩
theorem abl_len (l : List Mb) : ∀ j, (Cr.ablF j l).length ≤ l.length := by
  induction l with
  | nil => intro j; simp [Cr.ablF]
  | cons y l ih =>
    intro j
    unfold Cr.ablF
    have := ih (j + 1)
    split <;> simp <;> omega
theorem rstep_any (L N : Nat) (col : Nat → Nat) (sc : Sh.Sc) (n : Nat) (s : Lm) (w : World) (h : RW w col L N s) (hs : Sh.schk sc = 0) (i : Inv sc n s) (wb : WB s) (hv : verd s = 0) :
    Calls Tryz.prog 60 #[.pointer (some ⟨L, 0, none⟩)] w fun r w' => r = .returned (.bool true) ∧ ∃ col', RW w' col' L N (stepF s) ∧ Tq col col' w w' := by
  have hn := i.n200 hs
  have hk := kn_le hn
  have ok := i.ok hs
  obtain ⟨h1, h2, h3, h4, h5, h6, h7⟩ := schk_ok hs
  have hpl : 0 < s.p.length := by
    rcases Nat.eq_zero_or_pos s.p.length with z | z
    · exfalso
      unfold verd at hv
      rw [if_pos z] at hv
      split at hv
      · omega
      · split at hv <;> omega
    · exact z
  by_cases ht : nth s.p 0 = -1
  · have e : stepF s = tellS { s with p := s.p.tail } (bareE 13 (-1)) := by
      unfold stepF
      rw [if_neg (by omega), if_pos ht]
    rw [e]
    exact rstep_comp L N col s w h hv hpl ht (by have := ok.tn; omega)
  · have e : stepF s = doF { s with p := s.p.tail } (whoN s) (opOf s (whoN s)) := by
      unfold stepF
      rw [if_neg (by omega), if_neg ht]
    have ht0 : 0 ≤ nth s.p 0 := by
      have hm : nth s.p 0 ∈ sc.pl := by
        rw [nth_lt _ _ hpl]
        have hsub : ∀ x ∈ s.p, x ∈ sc.pl := fun x hx => by
          rw [i.p] at hx
          exact List.mem_of_mem_drop hx
        exact hsub _ (List.getElem_mem hpl)
      have := h6 _ hm
      omega
    obtain ⟨k, y, hwk, hky, hy0⟩ := who_ok hv ht0
    have hym := List.mem_of_getElem? hky
    have hyp := i.b.cp y hym
    have hyq := i.b.bw.cb y hym
    have hA : 0 < (Cr.abl s.cr).length := by
      apply abl_pos
      unfold Cr.hasS
      rw [List.any_eq_true]
      exact ⟨y, hym, by simp [hy0]⟩
    have hm : (Cr.abl s.cr).length ≤ 1000 := by
      have e1 : (Cr.abl s.cr).length ≤ s.cr.length := abl_len s.cr 0
      have e2 := i.b.cl
      omega
    rw [hwk] at e
    obtain ⟨yp, yq, ys⟩ := y
    simp only at hyp hyq
    obtain ⟨p, rfl⟩ : ∃ p : Nat, yp = (p : Int) := ⟨yp.toNat, by omega⟩
    obtain ⟨q, rfl⟩ : ∃ q : Nat, yq = (q : Int) := ⟨yq.toNat, by omega⟩
    exact rstep_op L N col s _ k p q ys sc.ps.length w h ok (by omega) hv hpl ht0 hA hm hwk hky (by rw [i.ps]; omega) (op_chk hs i _) wb _ e
end Rlo
end Go.Proofs.YtblfimobiibmjaaGreat
/- A strings.Builder of the call's own; package sheet: putNumbers, putList, over this seat's program. -/
namespace Go.Proofs.YtblfimobiibmjaaGreat
open Go.ChangeShapes Go.WideShapes Go.ChangeAt Go.RowKit
open Go.Shelf
namespace Sh
open De Ba Re

/-- what a builder's call leaves: below it all, above it all but bytes -/
structure BK (b : Nat) (w w' : World) : Prop where
  bel : Below b w w'
  oth : Lib.OthersKept 5 (some b) w w'
theorem BK.refl (b : Nat) (w : World) : BK b w w := ⟨Below.refl _ _, Lib.OthersKept.refl _ _ _⟩
theorem BK.trans {b : Nat} {a c d : World} (h : BK b a c) (k : BK b c d) : BK b a d := ⟨h.bel.trans k.bel, h.oth.trans k.oth⟩
theorem BK.of {b : Nat} {a c : World} (h : Below a.heap.size a c) (hb : b ≤ a.heap.size) : BK b a c := ⟨h.mono hb, fun _ _ hk _ _ => heap_below hk h⟩

theorem strCells_append (s t : ByteArray) : Lib.strCells (s ++ t) = Lib.strCells s ++ Lib.strCells t := by
  simp [Lib.strCells]
end Sh
end Go.Proofs.YtblfimobiibmjaaGreat
/- Package sheet: copied, moved, putNumbers, putList, over this seat's program. -/
namespace Go.Proofs.YtblfimobiibmjaaGreat
open Go.ChangeShapes Go.WideShapes Go.ChangeAt Go.RowKit
namespace Sh
open De Ba Re

/-- a list, moved by d -/
def mv (d : Int) (l : List Int) : List Int := l.map (· + d)
theorem mv_len (d : Int) (l : List Int) : (mv d l).length = l.length := by simp [mv]
theorem nth_mv (d : Int) (l : List Int) (k : Nat) (h : k < l.length) : nth (mv d l) k = nth l k + d := by
  rw [nth_lt _ k (by rw [mv_len]; exact h), nth_lt l k h]
  simp [mv]
theorem row_mv_step (d : Int) (l : List Int) (k : Nat) (h : k < l.length) : (row ((mv d l).take k ++ l.drop k)).setIfInBounds k (.int .i64 (nth l k + d)) = row ((mv d l).take (k + 1) ++ l.drop (k + 1)) := by
  apply Array.toList_inj.1
  rw [Array.toList_setIfInBounds]
  simp only [row]
  apply List.ext_getElem?
  intro j
  rw [List.getElem?_set]
  have hk : k < (mv d l).length := by rw [mv_len]; exact h
  by_cases e : k = j
  · subst e
    rw [if_pos rfl, if_pos (by simp; omega)]
    rw [List.getElem?_map, List.getElem?_append_left (by simp; omega), List.getElem?_take, if_pos (by omega), List.getElem?_eq_getElem hk]
    simp only [Option.map_some]
    rw [← nth_lt _ k hk, nth_mv d l k h]
  · rw [if_neg e, List.getElem?_map, List.getElem?_map]
    congr 1
    by_cases hj : j < k
    · rw [List.getElem?_append_left (by simp; omega), List.getElem?_append_left (by simp; omega), List.getElem?_take, List.getElem?_take, if_pos hj, if_pos (by omega)]
    · rw [List.getElem?_append_right (by simp; omega), List.getElem?_append_right (by simp; omega), List.getElem?_drop, List.getElem?_drop]
      congr 1
      simp
      omega
theorem pls_cat (l m : List Int) : De.pls (l ++ m) = De.pls l ++ De.pls m := by simp [De.pls]
end Sh
end Go.Proofs.YtblfimobiibmjaaGreat
/- Package sheet: Encode, over this seat's program. -/
namespace Go.Proofs.YtblfimobiibmjaaGreat
open Go.ChangeShapes Go.WideShapes Go.ChangeAt Go.RowKit
namespace Sh
open De Ba Re

/-- an operation's, a program's, all programs' bytes -/
def eop (o : OpD) : List Nat := De.pls (nums o)
def epr (p : List OpD) : List Nat := spl p.length ++ p.flatMap eop
def eps (ps : List (List OpD)) : List Nat := ps.flatMap epr
/-- a script's bytes -/
def sen (s : Sc) : List Nat := De.pls [s.T, s.M, (s.ps.length : Int)] ++ eps s.ps ++ plist (mv 1 s.pl) ++ plist s.dr
theorem sen_is {T M : Int} {ps : List (List OpD)} {pl dr : List Int} {L0 : List Nat} (h : De.pls [T, M, (ps.length : Int)] = L0) : sen ⟨T, M, ps, pl, dr⟩ = L0 ++ eps ps ++ plist (mv 1 pl) ++ plist dr := by
  subst h
  rfl
theorem flat_len_le {α : Type} (f : α → List Nat) (m : Nat) (l : List α) (h : ∀ x ∈ l, (f x).length ≤ m) : (l.flatMap f).length ≤ m * l.length := by
  induction l with
  | nil => simp
  | cons x t ih =>
    have h1 := h x (by simp)
    have h2 := ih fun y hy => h y (by simp [hy])
    rw [List.flatMap_cons, List.length_append, List.length_cons, Nat.mul_add, Nat.mul_one]
    omega
theorem flat_take {α : Type} (f : α → List Nat) (l : List α) (k : Nat) (x : α) (h : l[k]? = some x) : (l.take (k + 1)).flatMap f = (l.take k).flatMap f ++ f x := by
  rw [List.take_add_one, h, List.flatMap_append]
  simp
theorem schk_zero {s : Sc} (h : schk s = 0) : (1 ≤ s.T ∧ s.T ≤ 256) ∧ (1 ≤ s.M ∧ s.M ≤ 1048576) ∧ (∀ q ∈ s.ps, q.length ≤ 32) ∧ s.ps.length ≤ 8 ∧ s.pl.length ≤ 200 ∧ s.dr.length ≤ 64 ∧ 0 < s.ps.length ∧ ari s.ps.length s.ps = true ∧ ab (-1) 1000 s.pl = true ∧ ab 0 1000 s.dr = true := by
  unfold schk at h
  cases e1 : ((decide (1 ≤ s.T) && decide (s.T ≤ 256)) && (decide (1 ≤ s.M) && decide (s.M ≤ 1048576)))
  · rw [e1] at h; simp at h
  cases e2 : isl s.ps s.pl.length s.dr.length
  rotate_left
  · rw [e1, e2] at h; simp at h
  cases e3 : (!decide (s.ps.length = 0) && ari s.ps.length s.ps)
  · rw [e1, e2, e3] at h; simp at h
  cases e4 : (ab (-1) 1000 s.pl && ab 0 1000 s.dr)
  · rw [e1, e2, e3, e4] at h; simp at h
  rw [Bool.and_eq_true, Bool.and_eq_true, Bool.and_eq_true] at e1
  rw [Bool.and_eq_true] at e3 e4
  rw [isl, Bool.or_eq_false_iff, Bool.or_eq_false_iff, Bool.or_eq_false_iff, List.any_eq_false] at e2
  obtain ⟨⟨a1, a2⟩, a3, a4⟩ := e1
  obtain ⟨b1, ⟨b2, b3⟩, b4⟩ := e2
  obtain ⟨c1, c2⟩ := e3
  simp at a1 a2 a3 a4 b2 b3 b4 c1
  exact ⟨⟨a1, a2⟩, ⟨a3, a4⟩, fun q hq => by have := b1 q hq; simp at this; exact this, b2, b3, b4, by
    cases hps : s.ps with
    | nil => rw [hps] at c1; simp at c1
    | cons x t => simp, c2, e4.1, e4.2⟩

theorem eop_len (o : OpD) (h : o.cases.length ≤ 4) : (eop o).length ≤ 700 := by
  have h1 := De.pls_len (nums o)
  have h2 := nums_len o h
  unfold eop
  omega
theorem ari_mem {n : Int} {ps : List (List OpD)} (h : ari n ps = true) {q : List OpD} (hq : q ∈ ps) {o : OpD} (ho : o ∈ q) : chk o n = 0 := by
  obtain ⟨k, hk⟩ := List.mem_iff_getElem?.1 hq
  obtain ⟨j, hj⟩ := List.mem_iff_getElem?.1 ho
  exact ari_of h hk hj
theorem ops_len {n : Int} {ps : List (List OpD)} (h : ari n ps = true) {q : List OpD} (hq : q ∈ ps) (h32 : q.length ≤ 32) (j : Nat) : ((q.take j).flatMap eop).length ≤ 22400 := by
  have := flat_len_le eop 700 (q.take j) fun o ho => eop_len o (chk_zero (ari_mem h hq (List.mem_of_mem_take ho))).2.2.1
  have h2 : (q.take j).length ≤ 32 := by rw [List.length_take]; omega
  omega
theorem eps_len {n : Int} {ps : List (List OpD)} (h : ari n ps = true) (h32 : ∀ q ∈ ps, q.length ≤ 32) (h8 : ps.length ≤ 8) (k : Nat) : (eps (ps.take k)).length ≤ 180000 := by
  have := flat_len_le epr 22407 (ps.take k) fun q hq => by
    have h1 := ops_len h (List.mem_of_mem_take hq) (h32 q (List.mem_of_mem_take hq)) q.length
    rw [List.take_length] at h1
    have h2 := (spl_len q.length).2
    rw [epr, List.length_append]
    omega
  have h2 : (ps.take k).length ≤ 8 := by rw [List.length_take]; omega
  show ((ps.take k).flatMap epr).length ≤ _
  omega
theorem plist_len (l : List Int) (n : Nat) (h : l.length ≤ n) : (plist l).length ≤ 7 + 7 * n := by
  have h1 := Re.pls_len l
  have h2 := (spl_len l.length).2
  rw [plist, List.length_append]
  omega
theorem ab_okR {lo hi : Int} {l : List Int} (h : ab lo hi l = true) (h0 : 0 ≤ lo) (h1 : hi ≤ 1099511627776) : l.all okR = true := by
  rw [List.all_eq_true]
  intro x hx
  have := (ab_iff lo hi l).1 h x hx
  rw [okR_iff]
  omega
theorem mv_okR {l : List Int} (h : ab (-1) 1000 l = true) : (mv 1 l).all okR = true := by
  rw [List.all_eq_true]
  intro x hx
  rw [mv, List.mem_map] at hx
  obtain ⟨y, hy, rfl⟩ := hx
  have := (ab_iff (-1) 1000 l).1 h y hy
  rw [okR_iff]
  omega

end Sh
end Go.Proofs.YtblfimobiibmjaaGreat
/- Package sheet: the reader, over this seat's program. -/
namespace Go.Proofs.YtblfimobiibmjaaGreat
open Go.ChangeShapes Go.WideShapes Go.ChangeAt Go.RowKit
namespace Sh
open De Ba Re

/-- a number that is not above m, and how many bytes it has -/
def up1 (m : Int) (L : List Nat) : Option (Nat × Nat) := match tk L with
  | none => none
  | some (n, k) => if (n : Int) ≤ m then some (n, k) else none
/-- numbers up to limits: what they are, where one stands behind them, has it failed? -/
def ul (s : ByteArray) : List Int → Nat → Bool → List Int × Nat × Bool
  | [], z, f => ([], z, f)
  | m :: t, z, f => match f, up1 m ((nbs s).drop z) with
    | false, some (n, k) => ((n : Int) :: (ul s t (z + k) false).1, (ul s t (z + k) false).2)
    | _, _ => (List.replicate (t.length + 1) 0, z, true)
theorem ul_len (s : ByteArray) (l : List Int) (z : Nat) (f : Bool) : (ul s l z f).1.length = l.length := by
  induction l generalizing z f with
  | nil => rfl
  | cons m t ih =>
    unfold ul
    split
    · simp [ih]
    · simp
theorem ul_t (s : ByteArray) (l : List Int) (z : Nat) (h : l ≠ []) : ul s l z true = (List.replicate l.length 0, z, true) := by
  cases l with
  | nil => exact absurd rfl h
  | cons m t => simp [ul]
theorem ul_n (s : ByteArray) (m : Int) (t : List Int) (z : Nat) (f : Bool) (h : up1 m ((nbs s).drop z) = none) : ul s (m :: t) z f = (List.replicate (t.length + 1) 0, z, true) := by
  cases f <;> simp [ul, h]
theorem ul_s (s : ByteArray) (m : Int) (t : List Int) (z n k : Nat) (h : up1 m ((nbs s).drop z) = some (n, k)) : ul s (m :: t) z false = ((n : Int) :: (ul s t (z + k) false).1, (ul s t (z + k) false).2) := by
  simp [ul, h]
theorem kb_at {R : Nat} {w w' : World} {oa : Option Addr} {l : List Int} (k : De.KB R w w') (h : At w oa l) (hb : ∀ a, oa = some a → a.block ≠ R) : At w' oa l := by
  intro j hj
  obtain ⟨b, off, rfl, hc⟩ := h j hj
  exact ⟨b, off, rfl, kb_cell k hc (hb _ rfl)⟩
theorem up1_n {m : Int} {L : List Nat} (h : tk L = none) : up1 m L = none := by simp [up1, h]
theorem up1_b {m : Int} {L : List Nat} {n k : Nat} (h : tk L = some (n, k)) (hb : m < (n : Int)) : up1 m L = none := by
  simp only [up1, h]
  rw [if_neg (by omega)]
theorem up1_s {m : Int} {L : List Nat} {n k : Nat} (h : tk L = some (n, k)) (hb : (n : Int) ≤ m) : up1 m L = some (n, k) := by
  simp only [up1, h]
  rw [if_pos hb]
theorem set_mid (V : List Int) (n : Nat) (x : Int) (k : Nat) (h : V.length = k) : (V ++ List.replicate (n + 1) 0).set k x = (V ++ [x]) ++ List.replicate n 0 := by
  subst h
  rw [List.replicate_succ, List.set_append_right _ _ (Nat.le_refl _), Nat.sub_self, List.set_cons_zero, List.append_assoc]
  rfl
theorem sfx2 (s : ByteArray) (a b : Nat) : (s.extract a s.size).extract b (s.size - a) = s.extract (a + b) s.size := by
  rw [← sfx_sfx]
  congr 1
  simp [ByteArray.size_extract]
theorem row_set (l : List Int) (k : Nat) (x : Int) : (row l).setIfInBounds k (.int .i64 x) = row (l.set k x) := by
  apply Array.toList_inj.1
  simp [row, List.map_set]

end Sh
end Go.Proofs.YtblfimobiibmjaaGreat
/- Package sheet: the reader's list and program, over this seat's program. -/
namespace Go.Proofs.YtblfimobiibmjaaGreat
open Go.ChangeShapes Go.WideShapes Go.ChangeAt Go.RowKit
namespace Sh
open De Ba Re

theorem tl_err {L : List Nat} {m e : Int} (h : tl L m = .error e) : e = 4 ∨ e = 2 := by
  unfold tl at h
  split at h
  · simp at h; exact .inl h.symm
  · split at h
    · simp at h; exact .inr h.symm
    · split at h
      · simp at h; exact .inl h.symm
      · simp at h
theorem sx_size (s : ByteArray) (z : Nat) (hs : s.size ≤ 5000000) : (s.extract z s.size).size ≤ 5000000 := by
  rw [ByteArray.size_extract]
  omega
/-- the operation with which bytes begin, of p programs, and how many bytes it has -/
def dop (p : Int) (S : ByteArray) : Option (OpD × Nat) := if (rop S false).2.2 = false ∧ chk (rop S false).1 p = 0 then some ((rop S false).1, (eop (rop S false).1).length) else none
/-- so many operations from z on, and where one stands behind them -/
def rops (p : Int) (s : ByteArray) (z : Nat) : Nat → Option (List OpD × Nat)
  | 0 => some ([], z)
  | n + 1 => match rops p s z n with
    | none => none
    | some (l, y) => match dop p (s.extract y s.size) with
      | none => none
      | some (o, k) => some (l ++ [o], y + k)
theorem rops_stop {p : Int} {s : ByteArray} {z j : Nat} {l : List OpD} {y : Nat} (h : rops p s z j = some (l, y)) (hd : dop p (s.extract y s.size) = none) : ∀ n, j < n → rops p s z n = none := by
  intro n hn
  obtain ⟨d, rfl⟩ : ∃ d, n = j + 1 + d := ⟨n - (j + 1), by omega⟩
  clear hn
  induction d with
  | zero => simp [rops, h, hd]
  | succ d ih => rw [← Nat.add_assoc, rops, ih]
theorem rops_next {p : Int} {s : ByteArray} {z j : Nat} {l : List OpD} {y : Nat} {o : OpD} {k : Nat} (h : rops p s z j = some (l, y)) (hd : dop p (s.extract y s.size) = some (o, k)) : rops p s z (j + 1) = some (l ++ [o], y + k) := by
  simp [rops, h, hd]
theorem rops_len {p : Int} {s : ByteArray} {z j : Nat} {l : List OpD} {y : Nat} (h : rops p s z j = some (l, y)) : l.length = j := by
  induction j generalizing l y with
  | zero => simp [rops] at h; simp [h.1.symm]
  | succ j ih =>
    unfold rops at h
    split at h
    · cases h
    · rename_i l' y' h'
      split at h
      · cases h
      · simp at h
        rw [← h.1]
        simp [ih h']
/-- what is left of bytes behind an operation -/
theorem dop_rest {p : Int} {s : ByteArray} {z : Nat} {o : OpD} {k : Nat} (hz : z ≤ s.size) (h : dop p (s.extract z s.size) = some (o, k)) : (rop (s.extract z s.size) false).2.1 = s.extract (z + k) s.size ∧ z + k ≤ s.size ∧ (rop (s.extract z s.size) false).1 = o ∧ chk o p = 0 ∧ (rop (s.extract z s.size) false).2.2 = false := by
  unfold dop at h
  split at h
  · rename_i hc
    obtain ⟨h1, h2⟩ := hc
    generalize hr : rop (s.extract z s.size) false = x at h h1 h2
    obtain ⟨o', R, f⟩ := x
    simp only at h h1 h2
    subst h1
    simp at h
    obtain ⟨rfl, rfl⟩ := h
    have inv := rop_inv hr
    rw [nbs_sfx] at inv
    have hlen := congrArg List.length inv
    rw [List.length_drop, nbs_length, List.length_append] at hlen
    have he : (eop o').length = (De.pls (nums o')).length := rfl
    refine ⟨?_, by omega, rfl, h2, rfl⟩
    apply nbs_inj
    rw [nbs_sfx, ← List.drop_drop, inv, eop, List.drop_left]
  · cases h

theorem cat_kb {R : Nat} {w w' : World} {oa : Option Addr} {l : List Cs} (k : De.KB R w w') (h : CAt w oa l) (hb : ∀ a, oa = some a → a.block ≠ R) : CAt w' oa l := by
  intro j x hj
  obtain ⟨b, off, rfl, h1, h2, h3⟩ := h j x hj
  exact ⟨b, off, rfl, kb_cell k h1 (hb _ rfl), kb_cell k h2 (hb _ rfl), kb_cell k h3 (hb _ rfl)⟩
/-- a row of operations in block g, the cases of each in blocks from N on -/
def OF (w : World) (N g : Nat) (l : List OpD) : Prop :=
  ∀ t o, l[t]? = some o → ∃ ca cc, (w.cell? ⟨g, t * 5, none⟩ = some (.int .i64 o.kind) ∧ w.cell? ⟨g, t * 5 + 1, none⟩ = some (.int .i64 o.a) ∧ w.cell? ⟨g, t * 5 + 2, none⟩ = some (.int .i64 o.b) ∧ w.cell? ⟨g, t * 5 + 3, none⟩ = some (.slice ca o.cases.length cc) ∧ w.cell? ⟨g, t * 5 + 4, none⟩ = some (.bool o.def_)) ∧ CAt w ca o.cases ∧ (∀ a, ca = some a → N ≤ a.block) ∧ o.cases.length ≤ 3000
/-- there is room for n operations in block g -/
def OR (w : World) (g n : Nat) : Prop := (∀ c, c < n * 5 → (w.cell? ⟨g, c, none⟩).isSome = true) ∧ ∀ c, w.frozen? ⟨g, c, none⟩ = false
theorem OF.kb {w w' : World} {N g R : Nat} {l : List OpD} (h : OF w N g l) (k : De.KB R w w') (h1 : R < N) (h2 : g ≠ R) : OF w' N g l := by
  intro t o ht
  obtain ⟨ca, cc, ⟨q0, q1, q2, q3, q4⟩, hC, hN, hl⟩ := h t o ht
  exact ⟨ca, cc, ⟨kb_cell k q0 h2, kb_cell k q1 h2, kb_cell k q2 h2, kb_cell k q3 h2, kb_cell k q4 h2⟩, cat_kb k hC (fun a e => by have := hN a e; omega), hN, hl⟩
theorem OR.kb {w w' : World} {g n R : Nat} (h : OR w g n) (k : De.KB R w w') (hg : g < w.heap.size) (h2 : g ≠ R) : OR w' g n := by
  have hb := k.block g hg h2
  refine ⟨fun c hc => ?_, fun c => ?_⟩
  · have := h.1 c hc
    rw [World.cell?] at this ⊢
    rw [hb]
    exact this
  · have := h.2 c
    rw [World.frozen?] at this ⊢
    rw [hb]
    exact this
theorem OF.at {w : World} {N g : Nat} {l : List OpD} (h : OF w N g l) : OAt w (some ⟨g, 0, none⟩) l := by
  intro k o hk
  obtain ⟨ca, cc, ⟨q0, q1, q2, q3, q4⟩, hC, _, hl⟩ := h k o hk
  refine ⟨g, 0, ca, cc, rfl, ⟨?_, ?_, ?_, ?_, ?_⟩, hC, by unfold maxLen; omega⟩ <;> rw [Nat.zero_add] <;> assumption
theorem OF.store {w : World} {N g n j : Nat} {l : List OpD} (h : OF w N g l) (hr : OR w g n) (hg : g < N) (hl : l.length = j) (hj : j < n) (o : OpD) (ca : Option Addr) (cc : Nat) (hC : CAt w ca o.cases) (hN : ∀ a, ca = some a → N ≤ a.block) (h4 : o.cases.length ≤ 3000) (w' : World) (hw : w' = w.setCells g (j * 5) [.int .i64 o.kind, .int .i64 o.a, .int .i64 o.b, .slice ca o.cases.length cc, .bool o.def_]) : OF w' N g (l ++ [o]) ∧ OR w' g n := by
  subst hw
  have cin := World.cell?_setCells_in g [.int .i64 o.kind, .int .i64 o.a, .int .i64 o.b, .slice ca o.cases.length cc, .bool o.def_] (j * 5) w (fun i hi => hr.1 _ (by simp at hi; omega))
  have cout : ∀ x : Addr, (x.block = g → x.spot = none → x.off < j * 5 ∨ j * 5 + 5 ≤ x.off) → (w.setCells g (j * 5) [.int .i64 o.kind, .int .i64 o.a, .int .i64 o.b, .slice ca o.cases.length cc, .bool o.def_]).cell? x = w.cell? x := World.cell?_setCells_out g [.int .i64 o.kind, .int .i64 o.a, .int .i64 o.b, .slice ca o.cases.length cc, .bool o.def_] (j * 5) w
  have cat : ∀ (ca' : Option Addr) (cs : List Cs), CAt w ca' cs → (∀ a, ca' = some a → N ≤ a.block) → CAt (w.setCells g (j * 5) [.int .i64 o.kind, .int .i64 o.a, .int .i64 o.b, .slice ca o.cases.length cc, .bool o.def_]) ca' cs := by
    intro ca' cs hc hn i x hi
    obtain ⟨b, off, rfl, h1, h2, h3⟩ := hc i x hi
    have hb := hn _ rfl
    simp only at hb
    refine ⟨b, off, rfl, ?_, ?_, ?_⟩ <;> (rw [cout]; assumption; intro e; simp only at e; omega)
  refine ⟨?_, ?_, ?_⟩
  · intro t x ht
    by_cases e : t < l.length
    · rw [List.getElem?_append_left e] at ht
      obtain ⟨ca', cc', ⟨q0, q1, q2, q3, q4⟩, hC', hN', hl'⟩ := h t x ht
      refine ⟨ca', cc', ⟨?_, ?_, ?_, ?_, ?_⟩, cat _ _ hC' hN', hN', hl'⟩ <;> (rw [cout]; assumption; intro _ _; simp only; omega)
    · have ht2 : t = j := by
        have := (List.getElem?_eq_some_iff.1 ht).1
        rw [List.length_append, List.length_cons, List.length_nil] at this
        omega
      subst ht2
      rw [List.getElem?_append_right (by omega), hl, Nat.sub_self] at ht
      simp at ht
      subst ht
      refine ⟨ca, cc, ⟨?_, ?_, ?_, ?_, ?_⟩, cat _ _ hC hN, hN, h4⟩
      · exact cin 0 (by simp)
      · exact cin 1 (by simp)
      · exact cin 2 (by simp)
      · exact cin 3 (by simp)
      · exact cin 4 (by simp)
  · intro c hc
    by_cases e : c < j * 5 ∨ j * 5 + 5 ≤ c
    · rw [cout _ (fun _ _ => e)]
      exact hr.1 c hc
    · have := cin (c - j * 5) (by simp; omega)
      rw [show j * 5 + (c - j * 5) = c by omega] at this
      rw [this]
      rfl
  · intro c
    rw [World.frozen?_setCells]
    exact hr.2 c
end Sh
end Go.Proofs.YtblfimobiibmjaaGreat
/- Package sheet: the reader's program, over this seat's program. -/
namespace Go.Proofs.YtblfimobiibmjaaGreat
open Go.ChangeShapes Go.WideShapes Go.ChangeAt Go.RowKit
namespace Sh
open De Ba Re

theorem info_op : (Tryz.prog.info? 64).map (fun i => (i.zero, i.size, i.bytes)) = some (some (.agg #[.int .i64 0, .int .i64 0, .int .i64 0, .slice none 0 0, .bool false]), 5, 56) := by kernel_rfl
theorem OR.new (w : World) (n : Nat) (MC : Array Value) (t : TypeId) (h : MC.size = n * 5) : OR (w.alloc (.cells MC t)) w.heap.size n := by
  have hh := heap_new w (.cells MC t)
  refine ⟨fun c hc => ?_, fun c => frozen_of hh c⟩
  rw [cell_of hh, Array.getElem?_eq_getElem (by omega)]
  rfl
/-- a program from z on, and where one stands behind it -/
def rprog (p : Int) (s : ByteArray) (z : Nat) : Option (List OpD × Nat) := match up1 32 ((nbs s).drop z) with
  | none => none
  | some (n, k) => rops p s (z + k) n
end Sh
end Go.Proofs.YtblfimobiibmjaaGreat
/- Package sheet: Decode, over this seat's program. -/
namespace Go.Proofs.YtblfimobiibmjaaGreat
open Go.ChangeShapes Go.WideShapes Go.ChangeAt Go.RowKit
namespace Sh
open De Ba Re

/-- so many programs from z on, of p programs, and where one stands behind them -/
def rprogs (p : Int) (s : ByteArray) (z : Nat) : Nat → Option (List (List OpD) × Nat)
  | 0 => some ([], z)
  | n + 1 => match rprogs p s z n with
    | none => none
    | some (l, y) => match rprog p s y with
      | none => none
      | some (q, y') => some (l ++ [q], y')
theorem rprogs_stop {p : Int} {s : ByteArray} {z j : Nat} {l : List (List OpD)} {y : Nat} (h : rprogs p s z j = some (l, y)) (hd : rprog p s y = none) : ∀ n, j < n → rprogs p s z n = none := by
  intro n hn
  obtain ⟨d, rfl⟩ : ∃ d, n = j + 1 + d := ⟨n - (j + 1), by omega⟩
  clear hn
  induction d with
  | zero => simp [rprogs, h, hd]
  | succ d ih => rw [← Nat.add_assoc, rprogs, ih]
theorem rprogs_next {p : Int} {s : ByteArray} {z j : Nat} {l : List (List OpD)} {y y' : Nat} {q : List OpD} (h : rprogs p s z j = some (l, y)) (hd : rprog p s y = some (q, y')) : rprogs p s z (j + 1) = some (l ++ [q], y') := by
  simp [rprogs, h, hd]
theorem rprogs_len {p : Int} {s : ByteArray} {z j : Nat} {l : List (List OpD)} {y : Nat} (h : rprogs p s z j = some (l, y)) : l.length = j := by
  induction j generalizing l y with
  | zero => simp [rprogs] at h; simp [h.1.symm]
  | succ j ih =>
    unfold rprogs at h
    split at h
    · cases h
    · rename_i l' y' h'
      split at h
      · cases h
      · simp at h
        rw [← h.1]
        simp [ih h']
/-- a script's head -/
def shead (s : ByteArray) : Option (Nat × Nat × Nat × Nat) := match up1 256 (nbs s) with
  | none => none
  | some (t, k1) => match up1 1048576 ((nbs s).drop k1) with
    | none => none
    | some (m, k2) => match up1 8 ((nbs s).drop (k1 + k2)) with
      | none => none
      | some (n, k3) => some (t, m, n, k1 + k2 + k3)
/-- the script that bytes are -/
def sdec (s : ByteArray) : Option Sc := match shead s with
  | none => none
  | some (t, m, n, z3) => match rprogs n s z3 n with
    | none => none
    | some (ps, z) => match tl ((nbs s).drop z) 200 with
      | .error _ => none
      | .ok (xs, k5) => match tl ((nbs s).drop (z + k5)) 64 with
        | .error _ => none
        | .ok (ys, k6) => if z + k5 + k6 = s.size ∧ schk ⟨t, m, ps, mv (-1) xs, ys⟩ = 0 then some ⟨t, m, ps, mv (-1) xs, ys⟩ else none
theorem up1_le {m : Int} {L : List Nat} {n k : Nat} (h : up1 m L = some (n, k)) : (n : Int) ≤ m ∧ k ≤ L.length := by
  unfold up1 at h
  split at h
  · cases h
  · rename_i n' k' ht
    split at h
    · simp at h
      obtain ⟨rfl, rfl⟩ := h
      exact ⟨by assumption, (Re.tk_le ht).2⟩
    · cases h
theorem ul3 (s : ByteArray) : (∃ (t m : Int) (z : Nat), ul s [256, 1048576, 8] 0 false = ([t, m, 0], z, true) ∧ shead s = none) ∨ (∃ t m n z : Nat, ul s [256, 1048576, 8] 0 false = ([(t : Int), (m : Int), (n : Int)], z, false) ∧ shead s = some (t, m, n, z) ∧ n ≤ 8) := by
  cases h1 : up1 256 (nbs s) with
  | none => exact .inl ⟨0, 0, 0, by rw [ul_n s 256 [1048576, 8] 0 false (by rw [List.drop_zero]; exact h1)]; rfl, by simp [shead, h1]⟩
  | some q1 =>
    obtain ⟨t, k1⟩ := q1
    have e1 := ul_s s 256 [1048576, 8] 0 t k1 (by rw [List.drop_zero]; exact h1)
    rw [Nat.zero_add] at e1
    cases h2 : up1 1048576 ((nbs s).drop k1) with
    | none =>
      have e2 := ul_n s 1048576 [8] k1 false h2
      exact .inl ⟨(t : Int), 0, k1, by rw [e1, e2]; rfl, by simp [shead, h1, h2]⟩
    | some q2 =>
      obtain ⟨m, k2⟩ := q2
      have e2 := ul_s s 1048576 [8] k1 m k2 h2
      cases h3 : up1 8 ((nbs s).drop (k1 + k2)) with
      | none =>
        have e3 := ul_n s 8 [] (k1 + k2) false h3
        exact .inl ⟨(t : Int), (m : Int), k1 + k2, by rw [e1, e2, e3]; rfl, by simp [shead, h1, h2, h3]⟩
      | some q3 =>
        obtain ⟨n, k3⟩ := q3
        have e3 := ul_s s 8 [] (k1 + k2) n k3 h3
        exact .inr ⟨t, m, n, k1 + k2 + k3, by rw [e1, e2, e3]; rfl, by simp [shead, h1, h2, h3], by have := (up1_le h3).1; omega⟩

theorem info_pr : (Tryz.prog.info? 65).map (fun i => (i.zero, i.size, i.bytes)) = some (some (.slice none 0 0), 1, 24) := by kernel_rfl
/-- what Decode keeps: the answer's room at Z, the reader at R, the programs at G, the script at B -/
theorem sx0' (s : ByteArray) : s.extract 0 s.size = s := nbs_inj (by rw [nbs_sfx]; rfl)
/-- programs in a row of slices: each in a block of its own, from N on -/
def PF (w : World) (N : Nat) (arr : Array Value) (ps : List (List OpD)) : Prop :=
  ∀ (t : Nat) (q : List OpD), ps[t]? = some q → ∃ (g c : Nat), arr[t]? = some (.slice (some ⟨g, 0, none⟩) q.length c) ∧ OF w (g + 1) g q ∧ N ≤ g ∧ q.length ≤ 1000
theorem PF.kb {w w' : World} {N R : Nat} {arr : Array Value} {ps : List (List OpD)} (h : PF w N arr ps) (k : De.KB R w w') (hR : R < N) : PF w' N arr ps := by
  intro t q ht
  obtain ⟨g, c, h1, h2, h3, h4⟩ := h t q ht
  exact ⟨g, c, h1, h2.kb k (by omega) (by omega), h3, h4⟩
theorem PF.store {w : World} {N : Nat} {arr : Array Value} {ps : List (List OpD)} (h : PF w N arr ps) (k : Nat) (hk : ps.length = k) (hs : k < arr.size) (g c : Nat) (q : List OpD) (hq : OF w (g + 1) g q) (hN : N ≤ g) (h32 : q.length ≤ 1000) : PF w N (arr.setIfInBounds k (.slice (some ⟨g, 0, none⟩) q.length c)) (ps ++ [q]) := by
  intro t x ht
  by_cases e : t < ps.length
  · rw [List.getElem?_append_left e] at ht
    obtain ⟨g', c', h1, h2, h3, h4⟩ := h t x ht
    exact ⟨g', c', by rw [Array.getElem?_setIfInBounds_ne (by omega)]; exact h1, h2, h3, h4⟩
  · have hl := (List.getElem?_eq_some_iff.1 ht).1
    rw [List.length_append, List.length_cons, List.length_nil] at hl
    have : t = k := by omega
    subst this
    rw [List.getElem?_append_right (by omega), hk, Nat.sub_self] at ht
    simp at ht
    subst ht
    exact ⟨g, c, by rw [Array.getElem?_setIfInBounds_self_of_lt hs], hq, hN, h32⟩
theorem PF.at {w : World} {N G : Nat} {arr : Array Value} {ps : List (List OpD)} {t : TypeId} (h : PF w N arr ps) (hg : w.heap[G]? = some (.cells arr t (0, 0))) : PAt w (some ⟨G, 0, none⟩) ps := by
  intro k q hk
  obtain ⟨g, c, h1, h2, _, h4⟩ := h k q hk
  exact ⟨G, 0, _, _, rfl, by rw [Nat.zero_add, cell_of hg]; exact h1, h2.at, by unfold maxLen; omega⟩
/-- what the head has told -/
def HD (s : ByteArray) (T M : Int) (n z : Nat) (f : Bool) : Prop := (f = true ∧ sdec s = none) ∨ (f = false ∧ ∃ t m : Nat, T = t ∧ M = m ∧ shead s = some (t, m, n, z))
/-- how far programs are read -/
def LP (s : ByteArray) (T M : Int) (n z k y : Nat) (f : Bool) (w : World) (N : Nat) (arr : Array Value) (ps : List (List OpD)) : Prop := (f = true ∧ sdec s = none) ∨ (f = false ∧ (∃ t m : Nat, T = t ∧ M = m ∧ shead s = some (t, m, n, z)) ∧ rprogs n s z k = some (ps, y) ∧ PF w N arr ps)
/-- what Decode answers -/
def DRes (s : ByteArray) (r : Ending) (w' : World) : Prop :=
  (sdec s = none ∧ r = .returned (.tuple #[.agg #[.int .i64 0, .int .i64 0, .slice none 0 0, .slice none 0 0, .slice none 0 0], .int .i64 4])) ∨
  ∃ T M ps pl dr pa la da pc lc dc, sdec s = some ⟨T, M, ps, pl, dr⟩ ∧ r = .returned (.tuple #[.agg #[.int .i64 T, .int .i64 M, .slice pa ps.length pc, .slice la pl.length lc, .slice da dr.length dc], .int .i64 0]) ∧ SAt w' ⟨T, M, ps, pl, dr⟩ pa la da
theorem tst_bd {L : List Nat} : ∀ {i : Nat} {xs : List Int} {o : Nat}, tst L i = some (xs, o) → ∀ x ∈ xs, 0 ≤ x ∧ x ≤ 1099511627776
  | 0, xs, o, h => by
    simp [tst] at h
    obtain ⟨rfl, rfl⟩ := h
    intro x hx
    cases hx
  | i + 1, xs, o, h => by
    unfold tst at h
    split at h
    · cases h
    · rename_i ys o' hq
      split at h
      · cases h
      · rename_i x k ht
        simp at h
        obtain ⟨rfl, rfl⟩ := h
        intro y hy
        rw [List.mem_append] at hy
        rcases hy with hy | hy
        · exact tst_bd hq y hy
        · simp at hy
          subst hy
          have := Re.tk_bound ht
          omega
theorem tl_bd {L : List Nat} {most : Int} {xs : List Int} {z : Nat} (h : tl L most = .ok (xs, z)) : (∀ x ∈ xs, 0 ≤ x ∧ x ≤ 1099511627776) ∧ (xs.length : Int) ≤ most := by
  unfold tl at h
  cases ht : tk L with
  | none => rw [ht] at h; simp at h
  | some p =>
    obtain ⟨n, k⟩ := p
    rw [ht] at h
    simp only at h
    by_cases hm : most < (n : Int)
    · rw [if_pos hm] at h; simp at h
    · rw [if_neg hm] at h
      cases hq : tst (L.drop k) n with
      | none => rw [hq] at h; simp at h
      | some p =>
        obtain ⟨ys, o⟩ := p
        rw [hq] at h
        simp at h
        obtain ⟨rfl, rfl⟩ := h
        have hl := (tst_some hq).1
        exact ⟨tst_bd hq, by omega⟩
theorem sx_end (s : ByteArray) (z : Nat) (h : z ≤ s.size) : (s.extract z s.size).toList.isEmpty = decide (z = s.size) := by
  rw [toList_is]
  have h1 : (s.extract z s.size).data.toList.length = s.size - z := by
    show (s.extract z s.size).size = _
    rw [ByteArray.size_extract]
    omega
  cases hl : (s.extract z s.size).data.toList with
  | nil =>
    rw [hl] at h1
    simp at h1
    simp
    omega
  | cons a t =>
    rw [hl] at h1
    simp at h1
    simp
    omega
theorem size_sc : (Tryz.prog.info? 69).map (·.size) = some 5 := by kernel_rfl
theorem loadVar_sc {w : World} {b : Nat} {c : Array Value} {t : TypeId} (h : w.heap[b]? = some (.cells c t (0, 0))) (hc : c.size = 5) : (loadVar 69 ⟨b, 0, none⟩).run Tryz.prog w = .ok (.agg c) w :=
  run_loadVar_row w b t _ _ _ _ h Tryz.underlying69 rfl (by rw [size_sc, hc])
theorem sdec_head {s : ByteArray} (h : shead s = none) : sdec s = none := by simp [sdec, h]
theorem sdec_progs {s : ByteArray} {t m n z : Nat} (h : shead s = some (t, m, n, z)) (hp : rprogs n s z n = none) : sdec s = none := by simp [sdec, h, hp]
theorem sdec_plan {s : ByteArray} {t m n z y : Nat} {ps : List (List OpD)} {e : Int} (h : shead s = some (t, m, n, z)) (hp : rprogs n s z n = some (ps, y)) (hl : tl ((nbs s).drop y) 200 = .error e) : sdec s = none := by simp [sdec, h, hp, hl]
theorem sdec_draws {s : ByteArray} {t m n z y k : Nat} {ps : List (List OpD)} {xs : List Int} {e : Int} (h : shead s = some (t, m, n, z)) (hp : rprogs n s z n = some (ps, y)) (hl : tl ((nbs s).drop y) 200 = .ok (xs, k)) (hd : tl ((nbs s).drop (y + k)) 64 = .error e) : sdec s = none := by simp [sdec, h, hp, hl, hd]
theorem sdec_end {s : ByteArray} {t m n z y k k' : Nat} {ps : List (List OpD)} {xs ys : List Int} (h : shead s = some (t, m, n, z)) (hp : rprogs n s z n = some (ps, y)) (hl : tl ((nbs s).drop y) 200 = .ok (xs, k)) (hd : tl ((nbs s).drop (y + k)) 64 = .ok (ys, k')) : sdec s = if y + k + k' = s.size ∧ schk ⟨t, m, ps, mv (-1) xs, ys⟩ = 0 then some ⟨t, m, ps, mv (-1) xs, ys⟩ else none := by simp only [sdec, h, hp, hl, hd]

end Sh
end Go.Proofs.YtblfimobiibmjaaGreat
/- Package sheet: copies of rows of programs, operations, cases, over this seat's program. -/
namespace Go.Proofs.YtblfimobiibmjaaGreat
open Go.ChangeShapes Go.WideShapes Go.ChangeAt Go.RowKit
namespace Sh
open De Ba Re

theorem cps {w : World} {oa : Option Addr} {m : Nat} (h : ∀ j, j < m → ∃ b off v, oa = some ⟨b, off, none⟩ ∧ w.cell? ⟨b, off + j, none⟩ = some v ∧ v.oneCell' = true) : ∃ cs : List Value, cs.length = m ∧ CsAt w oa cs ∧ ∀ v ∈ cs, v.oneCell' = true := by
  have hv : ∀ j, j < m → ∃ v : Value, ∃ b off, oa = some ⟨b, off, none⟩ ∧ w.cell? ⟨b, off + j, none⟩ = some v ∧ v.oneCell' = true := fun j hj => by
    obtain ⟨b, off, v, h1, h2⟩ := h j hj
    exact ⟨v, b, off, h1, h2⟩
  have fam : ∃ f : Nat → Value, ∀ j, j < m → ∃ b off, oa = some ⟨b, off, none⟩ ∧ w.cell? ⟨b, off + j, none⟩ = some (f j) ∧ (f j).oneCell' = true := by
    refine ⟨fun j => if hj : j < m then Classical.choose (hv j hj) else .int .i64 0, fun j hj => ?_⟩
    simp only [dif_pos hj]
    exact Classical.choose_spec (hv j hj)
  obtain ⟨f, hf⟩ := fam
  refine ⟨(List.range m).map f, by simp, ?_, ?_⟩
  · intro j v hj
    have hjm : j < m := by
      have := (List.getElem?_eq_some_iff.1 hj).1
      simpa using this
    obtain ⟨b, off, h1, h2, _⟩ := hf j hjm
    simp [hjm] at hj
    subst hj
    exact ⟨b, off, h1, h2⟩
  · intro v hv
    rw [List.mem_map] at hv
    obtain ⟨j, hj, rfl⟩ := hv
    obtain ⟨_, _, _, _, h3⟩ := hf j (List.mem_range.1 hj)
    exact h3
theorem cs_get {w : World} {b off : Nat} {cs : List Value} (hA : CsAt w (some ⟨b, off, none⟩) cs) {j : Nat} (hj : j < cs.length) {v : Value} (hc : w.cell? ⟨b, off + j, none⟩ = some v) : cs[j]? = some v := by
  obtain ⟨b', off', he, h2⟩ := hA j cs[j] (List.getElem?_eq_getElem hj)
  cases he
  rw [hc] at h2
  rw [List.getElem?_eq_getElem hj, ← h2]
theorem row_cell (w : World) (cs : List Value) (t : TypeId) (j : Nat) : (w.alloc (.cells cs.toArray t)).cell? ⟨w.heap.size, j, none⟩ = cs[j]? := by
  rw [cell_of (heap_new _ _), List.getElem?_toArray]
theorem oat_cells {w : World} {oa : Option Addr} {q : List OpD} (h : OAt w oa q) : ∀ j, j < q.length * 5 → ∃ b off v, oa = some ⟨b, off, none⟩ ∧ w.cell? ⟨b, off + j, none⟩ = some v ∧ v.oneCell' = true := by
  intro j hj
  have ht : j / 5 < q.length := by omega
  obtain ⟨b, off, ca, cc, he, ⟨h0, h1, h2, h3, h4⟩, _⟩ := h (j / 5) q[j / 5] (List.getElem?_eq_getElem ht)
  have e : j % 5 = 0 ∨ j % 5 = 1 ∨ j % 5 = 2 ∨ j % 5 = 3 ∨ j % 5 = 4 := by omega
  rcases e with e | e | e | e | e
  · exact ⟨b, off, _, he, by rw [show off + j = off + j / 5 * 5 by omega]; exact h0, rfl⟩
  · exact ⟨b, off, _, he, by rw [show off + j = off + j / 5 * 5 + 1 by omega]; exact h1, rfl⟩
  · exact ⟨b, off, _, he, by rw [show off + j = off + j / 5 * 5 + 2 by omega]; exact h2, rfl⟩
  · exact ⟨b, off, _, he, by rw [show off + j = off + j / 5 * 5 + 3 by omega]; exact h3, rfl⟩
  · exact ⟨b, off, _, he, by rw [show off + j = off + j / 5 * 5 + 4 by omega]; exact h4, rfl⟩
theorem cat_cells {w : World} {oa : Option Addr} {l : List Cs} (h : CAt w oa l) : ∀ j, j < l.length * 3 → ∃ b off v, oa = some ⟨b, off, none⟩ ∧ w.cell? ⟨b, off + j, none⟩ = some v ∧ v.oneCell' = true := by
  intro j hj
  have ht : j / 3 < l.length := by omega
  obtain ⟨b, off, he, h0, h1, h2⟩ := h (j / 3) l[j / 3] (List.getElem?_eq_getElem ht)
  have e : j % 3 = 0 ∨ j % 3 = 1 ∨ j % 3 = 2 := by omega
  rcases e with e | e | e
  · exact ⟨b, off, _, he, by rw [show off + j = off + j / 3 * 3 by omega]; exact h0, rfl⟩
  · exact ⟨b, off, _, he, by rw [show off + j = off + j / 3 * 3 + 1 by omega]; exact h1, rfl⟩
  · exact ⟨b, off, _, he, by rw [show off + j = off + j / 3 * 3 + 2 by omega]; exact h2, rfl⟩
theorem pat_cells {w : World} {oa : Option Addr} {ps : List (List OpD)} (h : PAt w oa ps) : ∀ j, j < ps.length * 1 → ∃ b off v, oa = some ⟨b, off, none⟩ ∧ w.cell? ⟨b, off + j, none⟩ = some v ∧ v.oneCell' = true := by
  intro j hj
  rw [Nat.mul_one] at hj
  obtain ⟨b, off, pa, pc, he, h0, _⟩ := h j ps[j] (List.getElem?_eq_getElem hj)
  exact ⟨b, off, _, he, h0, rfl⟩

end Sh
end Go.Proofs.YtblfimobiibmjaaGreat
/- Package sheet: Copy, over this seat's program. -/
namespace Go.Proofs.YtblfimobiibmjaaGreat
open Go.ChangeShapes Go.WideShapes Go.ChangeAt Go.RowKit
namespace Sh
open De Ba Re

/-- a copied program's row: of the first k operations the cases are copied, too -/
def OM (w : World) (N0 g k : Nat) (l : List OpD) : Prop :=
  ∀ (t : Nat) (o : OpD), l[t]? = some o → ∃ ca cc, (w.cell? ⟨g, t * 5, none⟩ = some (.int .i64 o.kind) ∧ w.cell? ⟨g, t * 5 + 1, none⟩ = some (.int .i64 o.a) ∧ w.cell? ⟨g, t * 5 + 2, none⟩ = some (.int .i64 o.b) ∧ w.cell? ⟨g, t * 5 + 3, none⟩ = some (.slice ca o.cases.length cc) ∧ w.cell? ⟨g, t * 5 + 4, none⟩ = some (.bool o.def_)) ∧ CAt w ca o.cases ∧ (t < k → ∀ a, ca = some a → g + 1 ≤ a.block) ∧ (¬ t < k → ∀ a, ca = some a → o.cases ≠ [] → a.block < N0) ∧ o.cases.length ≤ 3000
theorem cat_lt {w : World} {oa : Option Addr} {l : List Cs} (h : CAt w oa l) (hl : l ≠ []) (a : Addr) (e : oa = some a) : a.block < w.heap.size := by
  cases l with
  | nil => exact absurd rfl hl
  | cons x t =>
    obtain ⟨b, off, rfl, h1, _⟩ := h 0 x rfl
    cases e
    exact World.block_lt_of_cell? w _ h1
theorem cat_kb' {R : Nat} {w w' : World} {oa : Option Addr} {l : List Cs} (k : De.KB R w w') (h : CAt w oa l) (hb : ∀ a, oa = some a → l ≠ [] → a.block ≠ R) : CAt w' oa l := by
  intro j x hj
  obtain ⟨b, off, rfl, h1, h2, h3⟩ := h j x hj
  have hne : l ≠ [] := by
    rintro rfl
    simp at hj
  exact ⟨b, off, rfl, kb_cell k h1 (hb _ rfl hne), kb_cell k h2 (hb _ rfl hne), kb_cell k h3 (hb _ rfl hne)⟩
theorem OM.start {w wr : World} {oa : Option Addr} {q : List OpD} {cs : List Value} (hO : OAt w oa q) (hb : Below w.heap.size w wr) (hl : cs.length = q.length * 5) (hA : CsAt wr oa cs) (h3 : ∀ o ∈ q, o.cases.length ≤ 3000) : OM (wr.alloc (.cells cs.toArray 64)) w.heap.size wr.heap.size 0 q := by
  intro t o ht
  obtain ⟨b, off, ca, cc, rfl, ⟨q0, q1, q2, q3, q4⟩, hC, _⟩ := hO t o ht
  have htl := (List.getElem?_eq_some_iff.1 ht).1
  refine ⟨ca, cc, ⟨?_, ?_, ?_, ?_, ?_⟩, (hC.below hb).below (below_alloc _ _), fun h => absurd h (Nat.not_lt_zero _), fun _ a e hne => cat_lt hC hne a e, h3 o (List.mem_of_getElem? ht)⟩
  · rw [row_cell]; exact cs_get hA (by omega) (cellB q0 hb)
  · rw [row_cell]; exact cs_get hA (by omega) (by rw [← Nat.add_assoc]; exact cellB q1 hb)
  · rw [row_cell]; exact cs_get hA (by omega) (by rw [← Nat.add_assoc]; exact cellB q2 hb)
  · rw [row_cell]; exact cs_get hA (by omega) (by rw [← Nat.add_assoc]; exact cellB q3 hb)
  · rw [row_cell]; exact cs_get hA (by omega) (by rw [← Nat.add_assoc]; exact cellB q4 hb)
theorem OM.below {w w' : World} {N0 g k : Nat} {l : List OpD} (h : OM w N0 g k l) (hb : Below w.heap.size w w') : OM w' N0 g k l := by
  intro t o ht
  obtain ⟨ca, cc, ⟨q0, q1, q2, q3, q4⟩, hC, h1, h2, h3⟩ := h t o ht
  exact ⟨ca, cc, ⟨cellB q0 hb, cellB q1 hb, cellB q2 hb, cellB q3 hb, cellB q4 hb⟩, hC.below hb, h1, h2, h3⟩
theorem OM.step {w : World} {N0 g k : Nat} {l : List OpD} {o : OpD} (h : OM w N0 g k l) (hN : N0 ≤ g) (ho : l[k]? = some o) (ca : Addr) (cc : Nat) (hC : CAt w (some ca) o.cases) (hg : g + 1 ≤ ca.block) : OM (w.setCell ⟨g, k * 5 + 3, none⟩ (.slice (some ca) o.cases.length cc)) N0 g (k + 1) l := by
  have KG := (De.KB.refl g w).setCell (k * 5 + 3) (.slice (some ca) o.cases.length cc)
  have far : ∀ i v, i ≠ k * 5 + 3 → w.cell? ⟨g, i, none⟩ = some v → (w.setCell ⟨g, k * 5 + 3, none⟩ (.slice (some ca) o.cases.length cc)).cell? ⟨g, i, none⟩ = some v := fun i v hi hv => by
    exact (World.cell?_setCell_other w ⟨g, k * 5 + 3, none⟩ ⟨g, i, none⟩ _ (by intro e; injection e; omega)).trans hv
  intro t x ht
  obtain ⟨ca', cc', ⟨q0, q1, q2, q3, q4⟩, hC', h1, h2, h3⟩ := h t x ht
  by_cases e : t = k
  · subst e
    rw [ho] at ht
    cases ht
    exact ⟨some ca, cc, ⟨far _ _ (by omega) q0, far _ _ (by omega) q1, far _ _ (by omega) q2, World.cell?_setCell_same _ _ _ q3, far _ _ (by omega) q4⟩, cat_kb KG hC (fun a e => by cases e; omega), fun _ a e => by cases e; exact hg, fun hlt => absurd (Nat.lt_succ_self _) hlt, h3⟩
  · refine ⟨ca', cc', ⟨far _ _ (by omega) q0, far _ _ (by omega) q1, far _ _ (by omega) q2, far _ _ (by omega) q3, far _ _ (by omega) q4⟩, cat_kb' KG hC' ?_, fun hlt => h1 (by omega), fun hlt => h2 (by omega), h3⟩
    intro a ea hne
    by_cases ht2 : t < k
    · have := h1 ht2 a ea; omega
    · have := h2 ht2 a ea hne; omega
theorem OM.done {w : World} {N0 g k : Nat} {l : List OpD} (h : OM w N0 g k l) (hk : l.length ≤ k) : OF w (g + 1) g l := by
  intro t o ht
  obtain ⟨ca, cc, hq, hC, h1, _, h3⟩ := h t o ht
  have htl := (List.getElem?_eq_some_iff.1 ht).1
  exact ⟨ca, cc, hq, hC, h1 (by omega), h3⟩

/-- programs being copied: the first k are, of the others the row still has the old ones -/
def PM (w0 w : World) (N k : Nat) (arr : Array Value) (ps : List (List OpD)) : Prop :=
  PF w N arr (ps.take k) ∧ ∀ (t : Nat) (q : List OpD), k ≤ t → ps[t]? = some q → ∃ pa pc, arr[t]? = some (.slice pa q.length pc) ∧ OAt w0 pa q
theorem PF.below {w w' : World} {N : Nat} {arr : Array Value} {ps : List (List OpD)} (h : PF w N arr ps) (hb : Below w.heap.size w w') (hN : 0 < N) : PF w' N arr ps := h.kb (De.KB.of (R := 0) hb) hN
theorem PM.start {w wr : World} {oa : Option Addr} {ps : List (List OpD)} {cs : List Value} (hP : PAt w oa ps) (hb : Below w.heap.size w wr) (hl : cs.length = ps.length) (hA : CsAt wr oa cs) (W : World) (N : Nat) : PM w W N 0 cs.toArray ps := by
  refine ⟨fun t q ht => by simp at ht, fun t q _ ht => ?_⟩
  obtain ⟨b, off, pa, pc, rfl, h0, h1, _⟩ := hP t q ht
  have htl := (List.getElem?_eq_some_iff.1 ht).1
  exact ⟨pa, pc, by rw [List.getElem?_toArray]; exact cs_get hA (by omega) (cellB h0 hb), h1⟩
theorem PM.step {w0 w : World} {N k : Nat} {arr : Array Value} {ps : List (List OpD)} {q : List OpD} (h : PM w0 w N k arr ps) (hq : ps[k]? = some q) (hs : k < arr.size) (g c : Nat) (hof : OF w (g + 1) g q) (hN : N ≤ g) (hl : q.length ≤ 1000) : PM w0 w N (k + 1) (arr.setIfInBounds k (.slice (some ⟨g, 0, none⟩) q.length c)) ps := by
  have hk := (List.getElem?_eq_some_iff.1 hq).1
  refine ⟨?_, fun t x ht hx => ?_⟩
  · rw [List.take_add_one, hq]
    exact h.1.store k (by rw [List.length_take]; omega) hs g c q hof hN hl
  · obtain ⟨pa, pc, h1, h2⟩ := h.2 t x (by omega) hx
    exact ⟨pa, pc, by rw [Array.getElem?_setIfInBounds_ne (by omega)]; exact h1, h2⟩
theorem PM.below {w0 w w' : World} {N k : Nat} {arr : Array Value} {ps : List (List OpD)} (h : PM w0 w N k arr ps) (hb : Below w.heap.size w w') (hN : 0 < N) : PM w0 w' N k arr ps := ⟨h.1.below hb hN, h.2⟩
theorem PM.kb {w0 w w' : World} {N k R : Nat} {arr : Array Value} {ps : List (List OpD)} (h : PM w0 w N k arr ps) (hk : De.KB R w w') (hR : R < N) : PM w0 w' N k arr ps := ⟨h.1.kb hk hR, h.2⟩
theorem PF.mono {w : World} {N N' : Nat} {arr : Array Value} {ps : List (List OpD)} (h : PF w N arr ps) (hN : N' ≤ N) : PF w N' arr ps := by
  intro t q ht
  obtain ⟨g, c, h1, h2, h3, h4⟩ := h t q ht
  exact ⟨g, c, h1, h2, by omega, h4⟩
/-- what Copy keeps: the script boxed at P, the answer's room behind it, the programs at G -/
structure CC (w wr : World) (G : Nat) (v0 v1 v2 v3 v4 : Value) (arr : Array Value) (n : Nat) : Prop where
  bx : wr.heap[w.heap.size]? = some (.cells #[v0, v1, v2, v3, v4] 69 (0, 0))
  zr : wr.heap[w.heap.size + 1]? = some (.cells #[.int .i64 0, .int .i64 0, .slice none 0 0, .slice none 0 0, .slice none 0 0] 69 (0, 0))
  pr : wr.heap[G]? = some (.cells arr 65 (0, 0))
  sz : arr.size = n
  bel : Below w.heap.size w wr
  ne : w.heap.size + 1 < G
theorem CC.below {w wr wr' : World} {G : Nat} {v0 v1 v2 v3 v4 : Value} {arr : Array Value} {n : Nat} (h : CC w wr G v0 v1 v2 v3 v4 arr n) (hb : Below wr.heap.size wr wr') : CC w wr' G v0 v1 v2 v3 v4 arr n :=
  ⟨heap_below h.bx hb, heap_below h.zr hb, heap_below h.pr hb, h.sz, btr h.bel hb, h.ne⟩
theorem CC.other {w wr wr' : World} {G R : Nat} {v0 v1 v2 v3 v4 : Value} {arr : Array Value} {n : Nat} (h : CC w wr G v0 v1 v2 v3 v4 arr n) (k : De.KB R wr wr') (hR : G < R) : CC w wr' G v0 v1 v2 v3 v4 arr n := by
  have hn := h.ne
  exact ⟨k.heap h.bx (by omega), k.heap h.zr (by omega), k.heap h.pr (by omega), h.sz, De.KB.below h.bel k (by omega), hn⟩
theorem CC.store {w wr : World} {G : Nat} {v0 v1 v2 v3 v4 : Value} {arr : Array Value} {n : Nat} (h : CC w wr G v0 v1 v2 v3 v4 arr n) (k : Nat) (v : Value) : CC w (wr.setCell ⟨G, k, none⟩ v) G v0 v1 v2 v3 v4 (arr.setIfInBounds k v) n := by
  have hn := h.ne
  have K := (De.KB.refl G wr).setCell k v
  exact ⟨K.heap h.bx (by omega), K.heap h.zr (by omega), Ba.heap_setCell_same h.pr v, by rw [Array.size_setIfInBounds]; exact h.sz, De.KB.below h.bel K (by omega), hn⟩
theorem CC.box {w wr : World} {G : Nat} {v0 v1 v2 v3 v4 u0 u1 u2 u3 u4 : Value} {arr : Array Value} {n : Nat} (h : CC w wr G v0 v1 v2 v3 v4 arr n) (i : Nat) (v : Value) (he : (#[v0, v1, v2, v3, v4] : Array Value).setIfInBounds i v = #[u0, u1, u2, u3, u4]) : CC w (wr.setCell ⟨w.heap.size, i, none⟩ v) G u0 u1 u2 u3 u4 arr n := by
  have hn := h.ne
  have K := (De.KB.refl w.heap.size wr).setCell i v
  exact ⟨by rw [Ba.heap_setCell_same h.bx, he], K.heap h.zr (by omega), K.heap h.pr (by omega), h.sz, De.KB.below h.bel K (by omega), hn⟩
/-- what is gone through here -/
structure Small (ps : List (List OpD)) (pl dr : List Int) : Prop where
  n : ps.length ≤ 20
  q : ∀ q ∈ ps, q.length ≤ 100
  c : ∀ q ∈ ps, ∀ o ∈ q, o.cases.length ≤ 3000
  p : pl.length ≤ 1000
  d : dr.length ≤ 1000
/-- what Copy answers: the same script, in new blocks -/
def CRes (w : World) (T M : Int) (ps : List (List OpD)) (pl dr : List Int) (r : Ending) (w' : World) : Prop :=
  ∃ G L D arr, r = .returned (.agg #[.int .i64 T, .int .i64 M, .slice (some ⟨G, 0, none⟩) ps.length ps.length, .slice (some ⟨L, 0, none⟩) pl.length pl.length, .slice (some ⟨D, 0, none⟩) dr.length dr.length]) ∧ (w'.heap[G]? = some (.cells arr 65 (0, 0)) ∧ PF w' (w.heap.size + 1) arr ps ∧ w.heap.size < G) ∧ (w'.heap[L]? = some (.cells (row pl) 3 (0, 0)) ∧ G < L) ∧ w'.heap[D]? = some (.cells (row dr) 3 (0, 0)) ∧ L < D

end Sh
end Go.Proofs.YtblfimobiibmjaaGreat
/- slices.IndexFunc and DeleteFunc at isCompact, over this seat's program. -/
namespace Go.Proofs.YtblfimobiibmjaaGreat
open Go.ChangeShapes Go.WideShapes Go.ChangeAt Go.RowKit
namespace Sh
open De Ba Re

/-- a list without its Compact entries -/
def bar (l : List Int) : List Int := l.filter fun n => !(n == -1)
theorem kb_setCells (R : Nat) (w : World) : ∀ (vs : List Value) (o : Nat) (w' : World), De.KB R w w' → De.KB R w (w'.setCells R o vs)
  | [], _, _, h => h
  | v :: vs, o, w', h => kb_setCells R w vs (o + 1) (w'.setCell ⟨R, o, none⟩ v) (h.setCell o v)
theorem bar_all {l : List Int} (h : ∀ k, k < l.length → nth l k ≠ -1) : bar l = l := by
  unfold bar
  rw [List.filter_eq_self]
  intro x hx
  obtain ⟨k, hk, rfl⟩ := List.mem_iff_getElem.1 hx
  have := h k hk
  rw [nth_lt l k hk] at this
  simpa using this
theorem bar_take (l : List Int) (k : Nat) (h : k < l.length) : bar (l.take (k + 1)) = bar (l.take k) ++ (bif nth l k == -1 then [] else [nth l k]) := by
  unfold bar
  rw [List.take_succ_eq_append_getElem h, List.filter_append, nth_lt l k h]
  cases hx : l[k] == -1 <;> simp [hx]
theorem bar_len (l : List Int) (k : Nat) : (bar (l.take k)).length ≤ k := by
  have h1 := List.length_filter_le (fun n : Int => !(n == -1)) (l.take k)
  have h2 := List.length_take_le k l
  unfold bar
  omega
theorem zero_int : ∀ w, (zeroValue 3).run Tryz.prog w = .ok (.int .i64 0) w := fun w => by
  obtain ⟨i0, hi, hz0, _, _⟩ := info_parts Ba.info_int
  simp [zeroValue, typeInfo, hi, hz0]
theorem set_take (cur : List Int) (i : Nat) (x : Int) (h : i < cur.length) : (cur.set i x).take (i + 1) = cur.take i ++ [x] := by
  rw [List.take_set, List.take_succ_eq_append_getElem h, List.set_append_right _ _ (by rw [List.length_take]; omega), List.length_take, Nat.min_eq_left (by omega), Nat.sub_self]
  rfl
theorem nth_set_ne (cur : List Int) (i t : Nat) (x : Int) (h : i ≠ t) : nth (cur.set i x) t = nth cur t := by
  unfold nth
  rw [List.getD_eq_getElem?_getD, List.getD_eq_getElem?_getD, List.getElem?_set_ne h]
end Sh
end Go.Proofs.YtblfimobiibmjaaGreat
/- Package sheet: Bare, over this seat's program. -/
namespace Go.Proofs.YtblfimobiibmjaaGreat
open Go.ChangeShapes Go.WideShapes Go.ChangeAt Go.RowKit
namespace Sh
open De Ba Re

/-- what Bare answers -/
def BRes (w : World) (T M : Int) (ps : List (List OpD)) (pl dr : List Int) (r : Ending) (w' : World) : Prop :=
  ∃ G L D arr, r = .returned (.agg #[.int .i64 T, .int .i64 M, .slice (some ⟨G, 0, none⟩) ps.length ps.length, .slice (some ⟨L, 0, none⟩) (bar pl).length pl.length, .slice (some ⟨D, 0, none⟩) dr.length dr.length]) ∧ (w'.heap[G]? = some (.cells arr 65 (0, 0)) ∧ PF w' (w.heap.size + 1) arr ps ∧ w.heap.size < G) ∧ (At w' (some ⟨L, 0, none⟩) (bar pl) ∧ G < L) ∧ w'.heap[D]? = some (.cells (row dr) 3 (0, 0)) ∧ L < D
theorem sc_frozen {w : World} {B : Nat} {v0 v1 v2 v3 v4 : Value} {t : TypeId} (h : w.heap[B]? = some (.cells #[v0, v1, v2, v3, v4] t (0, 0))) : w.frozen? ⟨B, 0, none⟩ = false ∧ w.frozen? ⟨B, 1, none⟩ = false ∧ w.frozen? ⟨B, 2, none⟩ = false ∧ w.frozen? ⟨B, 3, none⟩ = false ∧ w.frozen? ⟨B, 4, none⟩ = false :=
  ⟨frozen_of h 0, frozen_of h 1, frozen_of h 2, frozen_of h 3, frozen_of h 4⟩
theorem row_only {pl : List Int} {i : Nat} {v : Value} (h : (row pl)[i]? = some v) : ∃ n, v = .int .i64 n := by
  rw [row, List.getElem?_toArray, List.getElem?_map] at h
  cases hx : pl[i]? with
  | none => rw [hx] at h; cases h
  | some n => rw [hx] at h; exact ⟨n, (Option.some.inj h).symm⟩
theorem OF.kb_row {w w' : World} {N g L : Nat} {l : List OpD} {pl : List Int} {t : TypeId} {fr : Nat × Nat} (h : OF w N g l) (k : De.KB L w w') (hL : w.heap[L]? = some (.cells (row pl) t fr)) : OF w' N g l := by
  intro i o hi
  obtain ⟨ca, cc, ⟨q0, q1, q2, q3, q4⟩, hC, hN, h3⟩ := h i o hi
  have hg : g ≠ L := by
    rintro rfl
    rw [cell_of hL] at q3
    obtain ⟨n, e⟩ := row_only q3
    cases e
  refine ⟨ca, cc, ⟨kb_cell k q0 hg, kb_cell k q1 hg, kb_cell k q2 hg, kb_cell k q3 hg, kb_cell k q4 hg⟩, cat_kb' k hC ?_, hN, h3⟩
  intro a e hne hb
  cases hc : o.cases with
  | nil => exact hne hc
  | cons x xs =>
    obtain ⟨b, off, e2, y0, _⟩ := hC 0 x (by rw [hc]; rfl)
    rw [e] at e2
    cases e2
    simp only at hb
    subst hb
    rw [cell_of hL] at y0
    obtain ⟨n, e⟩ := row_only y0
    cases e
theorem PF.kb_row {w w' : World} {N L : Nat} {arr : Array Value} {ps : List (List OpD)} {pl : List Int} {t : TypeId} {fr : Nat × Nat} (h : PF w N arr ps) (k : De.KB L w w') (hL : w.heap[L]? = some (.cells (row pl) t fr)) : PF w' N arr ps := by
  intro i q hi
  obtain ⟨g, c, h1, h2, h3, h4⟩ := h i q hi
  exact ⟨g, c, h1, h2.kb_row k hL, h3, h4⟩
end Sh
end Go.Proofs.YtblfimobiibmjaaGreat
/- The laws' own Script, over this seat's program. -/
namespace Go.Proofs.YtblfimobiibmjaaGreat
open Go.ChangeShapes Go.WideShapes Go.ChangeAt Go.RowKit
namespace Sh
open De Ba Re

/-- a bool that says whether p -/
def SR (p : Prop) (r : Ending) : Prop := ∃ b, r = .returned (.bool b) ∧ (b = true ↔ p)
theorem mem_ops {w : World} {oa : Option Addr} {l : List OpD} (h : OAt w oa l) {k : Nat} {o : OpD} (hk : l[k]? = some o) : ∃ b off ca cc, oa = some ⟨b, off, none⟩ ∧ (w.cell? ⟨b, off + k * 5, none⟩ = some (.int .i64 o.kind) ∧ w.cell? ⟨b, off + k * 5 + 1, none⟩ = some (.int .i64 o.a) ∧ w.cell? ⟨b, off + k * 5 + 2, none⟩ = some (.int .i64 o.b) ∧ w.cell? ⟨b, off + k * 5 + 3, none⟩ = some (.slice ca o.cases.length cc) ∧ w.cell? ⟨b, off + k * 5 + 4, none⟩ = some (.bool o.def_)) ∧ CAt w ca o.cases ∧ o.cases.length ≤ maxLen := h k o hk

end Sh
end Go.Proofs.YtblfimobiibmjaaGreat
/- The laws' own large(), over this seat's program. -/
namespace Go.Proofs.YtblfimobiibmjaaGreat
open Go.ChangeShapes Go.WideShapes Go.ChangeAt Go.RowKit
namespace Sh
open De Ba Re

/-- what large answers: if it is not, all is small -/
def LR (ps : List (List OpD)) (pl dr : List Int) (r : Ending) : Prop := ∃ b, r = .returned (.bool b) ∧ (b = false → Small ps pl dr)
/-- no operation holds more cases than memory has room for -/
def Held (ps : List (List OpD)) : Prop := ∀ q ∈ ps, ∀ o ∈ q, o.cases.length ≤ 140737488355328
end Sh
end Go.Proofs.YtblfimobiibmjaaGreat
/- Scripts, there and back (plain). -/
namespace Go.Proofs.YtblfimobiibmjaaGreat
open Go.ChangeShapes Go.WideShapes Go.ChangeAt Go.RowKit
namespace Sh
open De Ba Re

theorem drop_flat {α : Type} (f : α → List Nat) (l : List α) (R : List Nat) (j : Nat) : (l.flatMap f ++ R).drop ((l.take j).flatMap f).length = (l.drop j).flatMap f ++ R := by
  have e : l.flatMap f = (l.take j).flatMap f ++ (l.drop j).flatMap f := by rw [← List.flatMap_append, List.take_append_drop]
  rw [e, List.append_assoc, List.drop_left]
theorem drop_of {L A R : List Nat} {z : Nat} (h : L.drop z = A ++ R) : L.drop (z + A.length) = R := by
  rw [← List.drop_drop, h, List.drop_left]

theorem dop_enc {p : Int} {o : OpD} (hc : chk o p = 0) (S : ByteArray) (R : List Nat) (h : nbs S = eop o ++ R) : dop p S = some (o, (eop o).length) := by
  obtain ⟨r, hr, _⟩ := rop_enc hc S R h
  simp [dop, hr, hc]
theorem rops_enc {p : Int} {q : List OpD} (hc : ∀ o ∈ q, chk o p = 0) (s : ByteArray) (z : Nat) (R : List Nat) (h : (nbs s).drop z = q.flatMap eop ++ R) :
    ∀ j, j ≤ q.length → rops p s z j = some (q.take j, z + ((q.take j).flatMap eop).length) := by
  intro j
  induction j with
  | zero => intro _; simp [rops]
  | succ j ih =>
    intro hj
    have hj' : j < q.length := by omega
    have h0 := ih (by omega)
    have hd : dop p (s.extract (z + ((q.take j).flatMap eop).length) s.size) = some (q[j], (eop q[j]).length) := by
      refine dop_enc (hc _ (List.getElem_mem hj')) _ ((q.drop (j + 1)).flatMap eop ++ R) ?_
      rw [nbs_sfx, ← List.drop_drop, h, drop_flat, List.drop_eq_getElem_cons hj', List.flatMap_cons, List.append_assoc]
    have e2 : q.take (j + 1) = q.take j ++ [q[j]] := (List.take_append_getElem hj').symm
    simp only [rops, h0, hd]
    rw [e2, List.flatMap_append, List.length_append]
    simp [Nat.add_assoc]
theorem rprog_enc {p : Int} {q : List OpD} (hc : ∀ o ∈ q, chk o p = 0) (hl : q.length ≤ 32) (s : ByteArray) (z : Nat) (R : List Nat) (h : (nbs s).drop z = epr q ++ R) : rprog p s z = some (q, z + (epr q).length) := by
  have h' : (nbs s).drop z = spl q.length ++ (q.flatMap eop ++ R) := by rw [h, epr, List.append_assoc]
  have ht := Re.tk_spl q.length (q.flatMap eop ++ R) (by omega)
  have hu : up1 32 ((nbs s).drop z) = some (q.length, (spl q.length).length) := by
    rw [h', up1, ht]
    simp only
    rw [if_pos (by omega)]
  have hr := rops_enc hc s (z + (spl q.length).length) R (drop_of h') q.length (Nat.le_refl _)
  rw [List.take_length] at hr
  simp only [rprog, hu, hr]
  simp [epr, Nat.add_assoc]
theorem rprogs_enc {p : Int} {ps : List (List OpD)} (hc : ∀ q ∈ ps, ∀ o ∈ q, chk o p = 0) (hl : ∀ q ∈ ps, q.length ≤ 32) (s : ByteArray) (z : Nat) (R : List Nat) (h : (nbs s).drop z = eps ps ++ R) :
    ∀ j, j ≤ ps.length → rprogs p s z j = some (ps.take j, z + (eps (ps.take j)).length) := by
  intro j
  induction j with
  | zero => intro _; simp [rprogs, eps]
  | succ j ih =>
    intro hj
    have hj' : j < ps.length := by omega
    have h0 := ih (by omega)
    have hd : rprog p s (z + (eps (ps.take j)).length) = some (ps[j], z + (eps (ps.take j)).length + (epr ps[j]).length) := by
      refine rprog_enc (hc _ (List.getElem_mem hj')) (hl _ (List.getElem_mem hj')) _ _ (eps (ps.drop (j + 1)) ++ R) ?_
      rw [← List.drop_drop, h, eps, eps, drop_flat, List.drop_eq_getElem_cons hj', List.flatMap_cons, List.append_assoc]
      rfl
    have e2 : ps.take (j + 1) = ps.take j ++ [ps[j]] := (List.take_append_getElem hj').symm
    have e3 : (eps (ps.take (j + 1))).length = (eps (ps.take j)).length + (epr ps[j]).length := by
      rw [e2, eps, List.flatMap_append, List.length_append]
      simp [eps]
    rw [rprogs_next h0 hd, e3, ← e2, Nat.add_assoc]
theorem tl_most {L : List Nat} {m m' : Int} {x : List Int × Nat} (h : tl L m = .ok x) (hm : m ≤ m') : tl L m' = .ok x := by
  unfold tl at h ⊢
  cases ht : tk L with
  | none => rw [ht] at h; simp at h
  | some y =>
    obtain ⟨n, k⟩ := y
    rw [ht] at h
    simp only at h ⊢
    by_cases hn : m < (n : Int)
    · rw [if_pos hn] at h; simp at h
    · rw [if_neg hn] at h
      rw [if_neg (by omega)]
      exact h
theorem mv_back (l : List Int) : mv (-1) (mv 1 l) = l := by
  simp only [mv, List.map_map]
  exact (List.map_congr_left (fun x _ => by simp; omega)).trans (List.map_id l)
theorem mv_there (l : List Int) : mv 1 (mv (-1) l) = l := by
  simp only [mv, List.map_map]
  exact (List.map_congr_left (fun x _ => by show x + -1 + 1 = x; omega)).trans (List.map_id l)

/-- what was encoded is decoded -/
theorem sdec_enc {s : Sc} (hs : schk s = 0) (b : ByteArray) (hb : nbs b = sen s) : sdec b = some s := by
  obtain ⟨T, M, ps, pl, dr⟩ := s
  obtain ⟨t12, m12, h32, h8, h200, h64, h0, har, hap, had⟩ := schk_zero hs
  simp only at t12 m12 h32 h8 h200 h64 h0 har hap had
  have e0 : nbs b = spl T.toNat ++ (spl M.toNat ++ (spl ps.length ++ (eps ps ++ (plist (mv 1 pl) ++ (plist dr ++ []))))) := by
    rw [hb]
    simp [sen, De.pls, List.append_assoc]
  have k0 : (nbs b).drop 0 = _ := e0
  have k1 := drop_of k0
  have k2 := drop_of k1
  have k3 := drop_of k2
  have k4 := drop_of k3
  have k5 := drop_of k4
  rw [Nat.zero_add] at k1 k2 k3 k4 k5
  have u1 : up1 256 (nbs b) = some (T.toNat, (spl T.toNat).length) := by
    rw [e0, up1, Re.tk_spl _ _ (by omega)]
    simp only
    rw [if_pos (by omega)]
  have u2 : up1 1048576 ((nbs b).drop (spl T.toNat).length) = some (M.toNat, (spl M.toNat).length) := by
    rw [k1, up1, Re.tk_spl _ _ (by omega)]
    simp only
    rw [if_pos (by omega)]
  have u3 : up1 8 ((nbs b).drop ((spl T.toNat).length + (spl M.toNat).length)) = some (ps.length, (spl ps.length).length) := by
    rw [k2, up1, Re.tk_spl _ _ (by omega)]
    simp only
    rw [if_pos (by omega)]
  have hh : shead b = some (T.toNat, M.toNat, ps.length, (spl T.toNat).length + (spl M.toNat).length + (spl ps.length).length) := by
    simp only [shead, u1, u2, u3]
  have hp := rprogs_enc (p := (ps.length : Int)) (fun q hq o ho => ari_mem har hq ho) h32 b _ _ k3 ps.length (Nat.le_refl _)
  rw [List.take_length] at hp
  have l1 := tl_most (m' := 200) (tl_plist (mv 1 pl) (plist dr ++ []) (by rw [mv_len]; omega) (mv_okR hap)) (by rw [mv_len]; omega)
  rw [← k4] at l1
  have l2 := tl_most (m' := 64) (tl_plist dr [] (by omega) (ab_okR had (by decide) (by decide))) (by omega)
  rw [← k5] at l2
  have hsz : (spl T.toNat).length + (spl M.toNat).length + (spl ps.length).length + (eps ps).length + (plist (mv 1 pl)).length + (plist dr).length = b.size := by
    rw [← nbs_length, e0]
    simp only [List.length_append, List.length_nil]
    omega
  rw [sdec_end hh hp l1 l2, mv_back, show ((T.toNat : Nat) : Int) = T by omega, show ((M.toNat : Nat) : Int) = M by omega, if_pos ⟨hsz, hs⟩]

theorem tk_cut {L : List Nat} {n k : Nat} (hL : ∀ b ∈ L, b < 256) (h : tk L = some (n, k)) : L = spl n ++ L.drop k := (Re.tk_put hL h).symm
theorem drop_lt {L : List Nat} (hL : ∀ b ∈ L, b < 256) (k : Nat) : ∀ b ∈ L.drop k, b < 256 := fun b hb => hL b (List.mem_of_mem_drop hb)
theorem up1_cut {m : Int} {L : List Nat} {n k : Nat} (hL : ∀ b ∈ L, b < 256) (h : up1 m L = some (n, k)) : L = spl n ++ L.drop k := by
  unfold up1 at h
  cases ht : tk L with
  | none => rw [ht] at h; simp at h
  | some y =>
    obtain ⟨n', k'⟩ := y
    rw [ht] at h
    simp only at h
    split at h
    · cases h; exact tk_cut hL ht
    · cases h
theorem dop_cut {p : Int} {S : ByteArray} {o : OpD} {k : Nat} (h : dop p S = some (o, k)) : nbs S = eop o ++ (nbs S).drop k := by
  unfold dop at h
  split at h
  · rename_i hc
    obtain ⟨h1, h2⟩ := hc
    generalize hr : rop S false = x at h h1 h2
    obtain ⟨o', R, f⟩ := x
    simp only at h h1 h2
    subst h1
    cases h
    have := rop_inv hr
    have e : nbs S = eop o ++ nbs R := this
    rw [e, List.drop_left]
  · cases h
theorem rops_cut {p : Int} {s : ByteArray} {z : Nat} : ∀ {n : Nat} {l : List OpD} {y : Nat}, rops p s z n = some (l, y) → (nbs s).drop z = l.flatMap eop ++ (nbs s).drop y ∧ l.length = n
  | 0, l, y, h => by
    simp [rops] at h
    obtain ⟨rfl, rfl⟩ := h
    simp
  | n + 1, l, y, h => by
    simp only [rops] at h
    cases hr : rops p s z n with
    | none => rw [hr] at h; cases h
    | some x =>
      obtain ⟨l', y'⟩ := x
      rw [hr] at h
      simp only at h
      cases hd : dop p (s.extract y' s.size) with
      | none => rw [hd] at h; cases h
      | some x =>
        obtain ⟨o, k⟩ := x
        rw [hd] at h
        cases h
        obtain ⟨h1, h2⟩ := rops_cut hr
        have h3 := dop_cut hd
        rw [nbs_sfx, List.drop_drop] at h3
        refine ⟨?_, by simp [h2]⟩
        rw [h1, h3, List.flatMap_append, List.append_assoc]
        simp
theorem rprog_cut {p : Int} {s : ByteArray} {z : Nat} {q : List OpD} {y : Nat} (h : rprog p s z = some (q, y)) : (nbs s).drop z = epr q ++ (nbs s).drop y := by
  unfold rprog at h
  cases hu : up1 32 ((nbs s).drop z) with
  | none => rw [hu] at h; cases h
  | some x =>
    obtain ⟨n, k⟩ := x
    rw [hu] at h
    simp only at h
    obtain ⟨h1, h2⟩ := rops_cut h
    have h3 := up1_cut (drop_lt (nbs_lt s) z) hu
    rw [List.drop_drop, h1] at h3
    rw [h3, epr, h2, List.append_assoc]
theorem rprogs_cut {p : Int} {s : ByteArray} {z : Nat} : ∀ {n : Nat} {l : List (List OpD)} {y : Nat}, rprogs p s z n = some (l, y) → (nbs s).drop z = eps l ++ (nbs s).drop y ∧ l.length = n
  | 0, l, y, h => by
    simp [rprogs] at h
    obtain ⟨rfl, rfl⟩ := h
    simp [eps]
  | n + 1, l, y, h => by
    simp only [rprogs] at h
    cases hr : rprogs p s z n with
    | none => rw [hr] at h; cases h
    | some x =>
      obtain ⟨l', y'⟩ := x
      rw [hr] at h
      simp only at h
      cases hd : rprog p s y' with
      | none => rw [hd] at h; cases h
      | some x =>
        obtain ⟨q, y2⟩ := x
        rw [hd] at h
        cases h
        obtain ⟨h1, h2⟩ := rprogs_cut hr
        have h3 := rprog_cut hd
        refine ⟨?_, by simp [h2]⟩
        rw [h1, h3]
        simp [eps]
theorem tst_cut {L : List Nat} (hL : ∀ b ∈ L, b < 256) : ∀ {i : Nat} {xs : List Int} {o : Nat}, tst L i = some (xs, o) → L = Re.pls xs ++ L.drop o ∧ xs.length = i
  | 0, xs, o, h => by
    simp [tst] at h
    obtain ⟨rfl, rfl⟩ := h
    simp [Re.pls]
  | i + 1, xs, o, h => by
    simp only [tst] at h
    cases hr : tst L i with
    | none => rw [hr] at h; cases h
    | some x =>
      obtain ⟨l', y'⟩ := x
      rw [hr] at h
      simp only at h
      cases hd : tk (L.drop y') with
      | none => rw [hd] at h; cases h
      | some x =>
        obtain ⟨n, k⟩ := x
        rw [hd] at h
        cases h
        obtain ⟨h1, h2⟩ := tst_cut hL hr
        have h3 := tk_cut (drop_lt hL y') hd
        rw [List.drop_drop] at h3
        refine ⟨?_, by simp [h2]⟩
        conv => lhs; rw [h1, h3]
        simp [Re.pls]
theorem tl_cut {L : List Nat} (hL : ∀ b ∈ L, b < 256) {m : Int} {xs : List Int} {k : Nat} (h : tl L m = .ok (xs, k)) : L = plist xs ++ L.drop k := by
  unfold tl at h
  cases ht : tk L with
  | none => rw [ht] at h; simp at h
  | some y =>
    obtain ⟨n, k1⟩ := y
    rw [ht] at h
    simp only at h
    split at h
    · cases h
    cases hs : tst (L.drop k1) n with
    | none => rw [hs] at h; cases h
    | some x =>
      obtain ⟨xs', o⟩ := x
      rw [hs] at h
      cases h
      obtain ⟨h1, h2⟩ := tst_cut (drop_lt hL k1) hs
      rw [List.drop_drop] at h1
      have h3 := tk_cut hL ht
      conv => lhs; rw [h3, h1]
      rw [plist, h2, List.append_assoc]

/-- what is decoded was encoded so -/
theorem sdec_cut {b : ByteArray} {s : Sc} (h : sdec b = some s) : nbs b = sen s ∧ schk s = 0 := by
  unfold sdec at h
  cases hh : shead b with
  | none => rw [hh] at h; cases h
  | some x =>
    obtain ⟨t, m, n, z⟩ := x
    rw [hh] at h
    simp only at h
    cases hp : rprogs n b z n with
    | none => rw [hp] at h; cases h
    | some x =>
      obtain ⟨ps, y⟩ := x
      rw [hp] at h
      simp only at h
      cases hl : tl ((nbs b).drop y) 200 with
      | error e => rw [hl] at h; cases h
      | ok x =>
        obtain ⟨xs, k⟩ := x
        rw [hl] at h
        simp only at h
        cases hd : tl ((nbs b).drop (y + k)) 64 with
        | error e => rw [hd] at h; cases h
        | ok x =>
          obtain ⟨ys, k'⟩ := x
          rw [hd] at h
          simp only at h
          split at h
          · rename_i hc
            obtain ⟨c1, c2⟩ := hc
            cases h
            refine ⟨?_, c2⟩
            have L := nbs_lt b
            have q4 := tl_cut (drop_lt L (y + k)) hd
            have q3 := tl_cut (drop_lt L y) hl
            obtain ⟨q2, hn⟩ := rprogs_cut hp
            rw [List.drop_drop, c1, ← nbs_length, List.drop_length] at q4
            rw [List.drop_drop, q4] at q3
            rw [q3] at q2
            unfold shead at hh
            cases u1 : up1 256 (nbs b) with
            | none => rw [u1] at hh; cases hh
            | some x =>
              obtain ⟨t', k1⟩ := x
              rw [u1] at hh
              simp only at hh
              cases u2 : up1 1048576 ((nbs b).drop k1) with
              | none => rw [u2] at hh; cases hh
              | some x =>
                obtain ⟨m', k2⟩ := x
                rw [u2] at hh
                simp only at hh
                cases u3 : up1 8 ((nbs b).drop (k1 + k2)) with
                | none => rw [u3] at hh; cases hh
                | some x =>
                  obtain ⟨n', k3⟩ := x
                  rw [u3] at hh
                  cases hh
                  have p3 := up1_cut (drop_lt L _) u3
                  have p2 := up1_cut (drop_lt L _) u2
                  have p1 := up1_cut L u1
                  rw [List.drop_drop, q2] at p3
                  rw [List.drop_drop, p3] at p2
                  rw [p2] at p1
                  rw [p1]
                  simp [sen, De.pls, mv_there, hn, List.append_assoc]
          · cases h
end Sh
end Go.Proofs.YtblfimobiibmjaaGreat
/- The laws' own exits(), over this seat's program. -/
namespace Go.Proofs.YtblfimobiibmjaaGreat
open Go.ChangeShapes Go.WideShapes Go.ChangeAt Go.RowKit
namespace Sh
open De Ba Re

def o9 : OpD := ⟨9, 0, 0, [], false⟩
def s9 : Sc := ⟨2, 9, [[o9]], [0, -1], []⟩
theorem s9_chk : schk s9 = 0 := by decide
theorem s9_sen : sen s9 = [2, 9, 1, 1, 9, 2, 1, 0, 0] := by decide
theorem s9_dec : sdec (bs (sen s9)) = some s9 := sdec_enc s9_chk _ (nbs_bs _ (by rw [s9_sen]; decide))
/-- the memory in which exits' script lies -/
def W9 (w : World) : World := (((w.alloc (.cells #[.int .i64 9, .int .i64 0, .int .i64 0, .slice none 0 0, .bool false] 64)).alloc (.cells #[.slice (some ⟨w.heap.size, 0, none⟩) 1 1] 65)).alloc (.cells #[.int .i64 0, .int .i64 (-1)] 3)).alloc (.cells #[.int .i64 2, .int .i64 9, .slice (some ⟨w.heap.size + 1, 0, none⟩) 1 1, .slice (some ⟨w.heap.size + 1 + 1, 0, none⟩) 2 2, .slice none 0 0] 69)
theorem w9_at (w : World) : SAt (W9 w) s9 (some ⟨w.heap.size + 1, 0, none⟩) (some ⟨w.heap.size + 1 + 1, 0, none⟩) none ∧ Below w.heap.size w (W9 w) ∧ (W9 w).heap[w.heap.size + 1 + 1 + 1]? = some (.cells #[.int .i64 2, .int .i64 9, .slice (some ⟨w.heap.size + 1, 0, none⟩) 1 1, .slice (some ⟨w.heap.size + 1 + 1, 0, none⟩) 2 2, .slice none 0 0] 69 (0, 0)) := by
  unfold W9
  have b1 := below_alloc w (.cells #[.int .i64 9, .int .i64 0, .int .i64 0, .slice none 0 0, .bool false] 64)
  have h1 := heap_new w (.cells #[.int .i64 9, .int .i64 0, .int .i64 0, .slice none 0 0, .bool false] 64)
  have z1 : (w.alloc (.cells #[.int .i64 9, .int .i64 0, .int .i64 0, .slice none 0 0, .bool false] 64)).heap.size = w.heap.size + 1 := World.size_alloc ..
  generalize w.alloc (.cells #[.int .i64 9, .int .i64 0, .int .i64 0, .slice none 0 0, .bool false] 64) = w1 at *
  have b2 := below_alloc w1 (.cells #[.slice (some ⟨w.heap.size, 0, none⟩) 1 1] 65)
  have h2 := heap_new w1 (.cells #[.slice (some ⟨w.heap.size, 0, none⟩) 1 1] 65)
  have z2 : (w1.alloc (.cells #[.slice (some ⟨w.heap.size, 0, none⟩) 1 1] 65)).heap.size = w1.heap.size + 1 := World.size_alloc ..
  generalize w1.alloc (.cells #[.slice (some ⟨w.heap.size, 0, none⟩) 1 1] 65) = w2 at *
  have b3 := below_alloc w2 (.cells #[.int .i64 0, .int .i64 (-1)] 3)
  have h3 := heap_new w2 (.cells #[.int .i64 0, .int .i64 (-1)] 3)
  have z3 : (w2.alloc (.cells #[.int .i64 0, .int .i64 (-1)] 3)).heap.size = w2.heap.size + 1 := World.size_alloc ..
  generalize w2.alloc (.cells #[.int .i64 0, .int .i64 (-1)] 3) = w3 at *
  have b4 := below_alloc w3 (.cells #[.int .i64 2, .int .i64 9, .slice (some ⟨w.heap.size + 1, 0, none⟩) 1 1, .slice (some ⟨w.heap.size + 1 + 1, 0, none⟩) 2 2, .slice none 0 0] 69)
  have h4 := heap_new w3 (.cells #[.int .i64 2, .int .i64 9, .slice (some ⟨w.heap.size + 1, 0, none⟩) 1 1, .slice (some ⟨w.heap.size + 1 + 1, 0, none⟩) 2 2, .slice none 0 0] 69)
  generalize w3.alloc (.cells #[.int .i64 2, .int .i64 9, .slice (some ⟨w.heap.size + 1, 0, none⟩) 1 1, .slice (some ⟨w.heap.size + 1 + 1, 0, none⟩) 2 2, .slice none 0 0] 69) = w4 at *
  rw [z3, z2, z1] at h4
  rw [z2, z1] at h3
  rw [z1] at h2
  have g1 := heap_below (heap_below (heap_below h1 b2) b3) b4
  have g2 := heap_below (heap_below h2 b3) b4
  have g3 := heap_below h3 b4
  refine ⟨⟨?_, ?_, fun k hk => absurd hk (Nat.not_lt_zero _), by decide, by decide, by decide⟩, btr (btr (btr b1 b2) b3) b4, h4⟩
  · intro k q hq
    have e : k = 0 ∧ q = [o9] := by
      match k, hq with
      | 0, hq => exact ⟨rfl, by simpa [s9] using hq.symm⟩
      | k + 1, hq => simp [s9] at hq
    obtain ⟨rfl, rfl⟩ := e
    refine ⟨_, _, _, 1, rfl, cell_of g2 0, ?_, by decide⟩
    intro j o ho
    have e : j = 0 ∧ o = o9 := by
      match j, ho with
      | 0, ho => exact ⟨rfl, by simpa using ho.symm⟩
      | j + 1, ho => simp at ho
    obtain ⟨rfl, rfl⟩ := e
    exact ⟨_, _, none, 0, rfl, ⟨cell_of g1 0, cell_of g1 1, cell_of g1 2, cell_of g1 3, cell_of g1 4⟩, CAt.nil _ _, by decide⟩
  · intro k hk
    have hk' : k < 2 := hk
    match k, hk' with
    | 0, _ => exact ⟨_, _, rfl, cell_of g3 0⟩
    | 1, _ => exact ⟨_, _, rfl, cell_of g3 1⟩

end Sh
end Go.Proofs.YtblfimobiibmjaaGreat
