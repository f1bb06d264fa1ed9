/- The gauge's reader, over this seat's program: goroutines (rule 2). -/
import Derived.Test.YtakbbhngcdccpaaGreatGu9
namespace Go.Proofs.YtakbbhngcdccpaaGreat
open Go.ChangeShapes Go.WideShapes Go.ChangeAt Go.RowKit
namespace Gu
open En Ba

section
variable {w w' : World} {N R mb : Nat} {ev vs : Value} {D : DataW Unit} {cs : List Sv} {s : Gs}
theorem GR.below (h : GR w N R mb ev vs D cs s) (b : Below w.heap.size w w') : GR w' N R mb ev vs D cs s := by
  refine ⟨h.hN, heap_below h.hR b, own_below h.st b, ?_, h.mi, h.len, fun i x c hx hc => ?_, h.dj, h.dv⟩
  · obtain ⟨es, ck, hb, r⟩ := h.mp
    exact ⟨es, ck, heap_below hb b, r⟩
  · obtain ⟨v, r⟩ := h.ch i x c hx hc
    refine ⟨v.keep fun hn => ?_, r⟩
    obtain ⟨-, cur, hb, -⟩ := v.row hn
    rw [heap_below hb b, hb]
/-- what no row of the reader's is: R itself -/
theorem GR.noR (h : GR w N R mb ev vs D cs s) : vs.ownBlock ≠ some R ∧ R ≠ mb ∧ ∀ (i : Nat) x, cs[i]? = some x → x.nil = false → x.b ≠ R := by
  refine ⟨?_, ?_, fun i x hx hn e => ?_⟩
  · rcases h.st.2 with ⟨rfl, -⟩ | ⟨g, cap, cur, rfl, -, q3, -⟩
    · intro e; cases e
    · intro e; cases e; have := h.hR; rw [q3] at this; cases this
  · intro e
    obtain ⟨es, ck, hb, -⟩ := h.mp
    have := h.hR
    rw [e, hb] at this; cases this
  · have hil : i < cs.length := (List.getElem?_eq_some_iff.1 hx).1
    obtain ⟨c, hc⟩ : ∃ c, s.ch[i]? = some c := ⟨_, List.getElem?_eq_getElem (by rw [← h.len]; exact hil)⟩
    obtain ⟨-, cur, hb, -⟩ := (h.ch i x c hx hc).1.row hn
    have := h.hR
    rw [← e, hb] at this; cases this
/-- R is written, all else stays -/
theorem GR.setR (h : GR w N R mb ev vs D cs s) (k : KB R w w') {s' : Gs} {vs' : Value} (hR : w'.heap[R]? = some (.cells #[ev, vs', .map (some mb), .bool s'.pn, .int .i64 s'.la.k, .int .i64 s'.la.g, .int .i64 s'.la.c, .int .i64 s'.la.a, .int .i64 s'.la.v, .int .i64 s'.la.m, .bool s'.la.s, .bool s'.la.o] 87 (0, 0))) (hv : vs' = vs) (hst : s'.st = s.st) (hch : s'.ch = s.ch) : GR w' N R mb ev vs' D cs s' := by
  subst hv
  obtain ⟨n1, n2, n3⟩ := h.noR
  refine ⟨h.hN, hR, by rw [hst]; exact own_kb h.st k n1, ?_, h.mi, by rw [hch]; exact h.len, fun i x c hx hc => ?_, h.dj, h.dv⟩
  · obtain ⟨es, ck, hb, r⟩ := h.mp
    exact ⟨es, ck, k.heap hb (Ne.symm n2), r⟩
  · rw [hch] at hc
    obtain ⟨v, r⟩ := h.ch i x c hx hc
    refine ⟨v.keep fun hn => ?_, r⟩
    obtain ⟨-, cur, hb, -⟩ := v.row hn
    rw [k.heap hb (n3 i x hx hn), hb]
theorem own_set_at {g cap : Nat} {L : List Int} (h : w.ownsRow N 3 1 (.slice (some ⟨g, 0, none⟩) L.length cap) L.length (ic L)) (j : Nat) (y : Int) : (w.setCell ⟨g, j, none⟩ (.int .i64 y)).ownsRow N 3 1 (.slice (some ⟨g, 0, none⟩) L.length cap) (L.set j y).length (ic (L.set j y)) := by
  rcases h.2 with ⟨e, -⟩ | ⟨g', cap', cur, e, q1, q2, q3, q4, q5, q6⟩
  · cases e
  · cases e
    refine ⟨by rw [ic_len, Nat.mul_one], .inr ⟨g, cap, _, by rw [List.length_set], q1, Ba.heap_setCell_same q2 _, by rw [List.length_set]; exact q3, q4, by simpa using q5, ?_⟩⟩
    rw [List.length_set]
    unfold ic
    rw [List.map_set]
    have : (cur.setIfInBounds j (.int .i64 y)).toList = cur.toList.set j (.int .i64 y) := by simp
    rw [this, List.take_set, q6]
    rfl
theorem own_st_cell {g cap : Nat} {L : List Int} (h : w.ownsRow N 3 1 (.slice (some ⟨g, 0, none⟩) L.length cap) L.length (ic L)) (j : Nat) (hj : j < L.length) : w.cell? ⟨g, j, none⟩ = some (.int .i64 (L.getD j 0)) ∧ w.frozen? ⟨g, j, none⟩ = false ∧ N ≤ g := by
  rcases h.2 with ⟨e, -⟩ | ⟨g', cap', cur, e, q1, q2, q3, q4, q5, q6⟩
  · cases e
  · cases e
    refine ⟨?_, frozen_of q2 j, q1⟩
    rw [cell_of q2]
    have e1 : (ic L)[j]? = some (.int .i64 (L.getD j 0)) := by simp [ic, List.getElem?_eq_getElem hj, List.getD_eq_getElem?_getD]
    rw [← q6, List.getElem?_take, if_pos (by omega)] at e1
    simpa using e1
/-- a state is set -/
theorem GR.set {g cap : Nat} (h : GR w N R mb ev (.slice (some ⟨g, 0, none⟩) s.st.length cap) D cs s) (j : Nat) (y : Int) : GR (w.setCell ⟨g, j, none⟩ (.int .i64 y)) N R mb ev (.slice (some ⟨g, 0, none⟩) s.st.length cap) D cs { s with st := s.st.set j y } := by
  have K := (KB.refl g w).setCell j (.int .i64 y)
  have nR : R ≠ g := fun e => h.noR.1 (by rw [e]; rfl)
  refine ⟨h.hN, K.heap h.hR nR, own_set_at h.st j y, ?_, h.mi, h.len, fun i x c hx hc => ?_, h.dj, h.dv⟩
  · obtain ⟨es, ck, hb, r⟩ := h.mp
    refine ⟨es, ck, K.heap hb ?_, r⟩
    rintro rfl
    rcases h.st.2 with ⟨e, -⟩ | ⟨g', cap', cur, e, -, q3, -⟩
    · cases e
    · cases e; rw [hb] at q3; cases q3
  · obtain ⟨v, r⟩ := h.ch i x c hx hc
    refine ⟨v.keep fun hn => ?_, r⟩
    obtain ⟨-, cur, hb, -⟩ := v.row hn
    have := h.dv i x hx hn
    rw [K.heap hb (fun e => this (by rw [e]; rfl)), hb]
/-- states in another row -/
theorem GR.row (h : GR w N R mb ev vs D cs s) {w1 : World} (hg : w.grownBy w1 vs.ownBlock) {v' : Value} {L : List Int} (ho : w1.ownsRow N 3 1 v' L.length (ic L)) (hat : v'.ownBlock = vs.ownBlock ∨ v'.ownBlock = some w.heap.size) : GR (w1.setCell ⟨R, 1, none⟩ v') N R mb ev v' D cs { s with st := L } := by
  obtain ⟨n1, n2, n3⟩ := h.noR
  have K := (KB.refl R w1).setCell 1 v'
  have g1 : ∀ {b : Nat} {o : Obj}, w.heap[b]? = some o → vs.ownBlock ≠ some b → w1.heap[b]? = some o := fun hb hn => (hg.block _ (heap_lt hb) (fun e => hn e.symm)).trans hb
  have hR1 := g1 h.hR n1
  have nv : v'.ownBlock ≠ some R := by
    rcases hat with q | q
    · rw [q]; exact n1
    · rw [q]; intro e; injection e with e; have := heap_lt h.hR; omega
  refine ⟨h.hN, Ba.heap_setCell_same hR1 _, own_kb ho K nv, ?_, h.mi, h.len, fun i x c hx hc => ?_, h.dj, fun i x hx hn => ?_⟩
  · obtain ⟨es, ck, hb, r⟩ := h.mp
    refine ⟨es, ck, K.heap (g1 hb ?_) (Ne.symm n2), r⟩
    intro e
    rcases h.st.2 with ⟨rfl, -⟩ | ⟨g', cap', cur, rfl, -, q3, -⟩
    · cases e
    · cases e; rw [hb] at q3; cases q3
  · obtain ⟨v, r⟩ := h.ch i x c hx hc
    refine ⟨v.keep fun hn => ?_, r⟩
    obtain ⟨-, cur, hb, -⟩ := v.row hn
    rw [K.heap (g1 hb (h.dv i x hx hn)) (n3 i x hx hn), hb]
  · rcases hat with q | q
    · rw [q]; exact h.dv i x hx hn
    · rw [q]; intro e; injection e with e
      have hil : i < cs.length := (List.getElem?_eq_some_iff.1 hx).1
      obtain ⟨c, hc⟩ : ∃ c, s.ch[i]? = some c := ⟨_, List.getElem?_eq_getElem (by rw [← h.len]; exact hil)⟩
      obtain ⟨-, cur, hb, -⟩ := (h.ch i x c hx hc).1.row hn
      have := heap_lt hb
      omega
end
/-- nothing below N has changed, and no row of functions -/
structure Fb (N : Nat) (w w' : World) : Prop where
  b : Below N w w'
  f : ∀ (k : Nat) (cc : Array Value), w.heap[k]? = some (.cells cc 43 (0, 0)) → w'.heap[k]? = some (.cells cc 43 (0, 0))
section
variable {w0 w w' : World} {N R mb : Nat} {ev vs : Value} {D : DataW Unit} {cs : List Sv} {s : Gs}
theorem Fb.of (h : Below w.heap.size w w') (hN : N ≤ w.heap.size) : Fb N w w' := ⟨h.mono hN, fun _ _ hk => heap_below hk h⟩
theorem Fb.trans (h : Fb N w0 w) (k : Fb N w w') : Fb N w0 w' := ⟨h.b.trans k.b, fun i cc hi => k.f i cc (h.f i cc hi)⟩
theorem Fb.size (h : Fb N w w') : w.heap.size ≤ w'.heap.size := h.b.size
theorem Fb.set {i k : Nat} {v : Value} {cc : Array Value} {t : TypeId} (h : Fb N w0 w) (hk : w.heap[k]? = some (.cells cc t (0, 0))) (ht : t ≠ 43) (hN : N ≤ k) : Fb N w0 (w.setCell ⟨k, i, none⟩ v) :=
  ⟨below_set h.b hN, fun j c2 hj => (Below.heap_setCell _ _ _ _ (by show j ≠ k; intro e; have := h.f j c2 hj; rw [e, hk] at this; cases this; exact ht rfl)).trans (h.f j c2 hj)⟩
theorem Fb.setR {i : Nat} {v : Value} (h : Fb N w0 w) (g : GR w N R mb ev vs D cs s) : Fb N w0 (w.setCell ⟨R, i, none⟩ v) := h.set g.hR (by decide) g.hN.1
theorem Fb.setS {i sg n c : Nat} {v : Value} (h : Fb N w0 w) (g : GR w N R mb ev (.slice (some ⟨sg, 0, none⟩) n c) D cs s) (hN : N ≤ sg) : Fb N w0 (w.setCell ⟨sg, i, none⟩ v) := by
  rcases g.st.2 with ⟨e, -⟩ | ⟨g', cap', cur, e, -, q3, -⟩
  · cases e
  · cases e
    exact h.set q3 (by decide) hN
theorem Fb.kb {C : Nat} {cc : Array Value} {t : TypeId} (h : Fb N w0 w) (k : KB C w w') (hC : N ≤ C) (hN : N ≤ w0.heap.size) (hk : w.heap[C]? = some (.cells cc t (0, 0))) (ht : t ≠ 43) : Fb N w0 w' := by
  refine ⟨⟨k.os.trans h.b.os, k.tape.trans h.b.tape, k.output.trans h.b.output, Nat.le_trans h.b.size k.size, fun j hj => (k.block j (by have := h.b.size; omega) (by omega)).trans (h.b.block j hj)⟩, fun j c2 hj => ?_⟩
  have h1 := h.f j c2 hj
  exact k.heap h1 (fun e => by rw [e, hk] at h1; cases h1; exact ht rfl)
theorem Fb.row {w1 : World} {v : Value} (h : Fb N w0 w) (g : GR w N R mb ev vs D cs s) (hg : w.grownBy w1 vs.ownBlock) (b : Below N w0 (w1.setCell ⟨R, 1, none⟩ v)) : Fb N w0 (w1.setCell ⟨R, 1, none⟩ v) := by
  refine ⟨b, fun j c2 hj => ?_⟩
  have h1 := h.f j c2 hj
  have h2 : w1.heap[j]? = some (.cells c2 43 (0, 0)) := (hg.block j (heap_lt h1) (fun e => by
    rcases g.st.2 with ⟨rfl, -⟩ | ⟨g', cap', cur, rfl, -, q3, -⟩
    · cases e
    · cases e; rw [q3] at h1; cases h1)).trans h1
  exact (Below.heap_setCell _ _ _ _ (by show j ≠ R; intro e; rw [e, g.hR] at h1; cases h1)).trans h2
end
/-- behind rule 2 -/
def GoP (R2 : Option (List Int × Bool)) (N R : Nat) (ev : Value) (s : Gs) (w : World) (r : Ending) (w' : World) : Prop := ((R2 = none ∧ r = .returned (.bool false)) ∨ ∃ st pn, R2 = some (st, pn) ∧ r = .returned (.bool true) ∧ GW w' N R ev { s with st := st, pn := pn }) ∧ Fb N w w'
theorem GoP.no {R2 : Option (List Int × Bool)} {N R : Nat} {ev : Value} {s : Gs} {w w' : World} (h : R2 = none) (b : Fb N w w') : GoP R2 N R ev s w (.returned (.bool false)) w' := ⟨.inl ⟨h, rfl⟩, b⟩
theorem GoP.yes {R2 : Option (List Int × Bool)} {N R mb : Nat} {ev vs : Value} {D : DataW Unit} {cs : List Sv} {s : Gs} {w w' : World} {st : List Int} {pn : Bool} (h : R2 = some (st, pn)) (g : GR w' N R mb ev vs D cs { s with st := st, pn := pn }) (b : Fb N w w') : GoP R2 N R ev s w (.returned (.bool true)) w' := ⟨.inr ⟨st, pn, h, rfl, mb, vs, D, cs, g⟩, b⟩
set_option maxRecDepth 100000 in
set_option maxHeartbeats 12800000 in
theorem gor_any {w : World} {N R c : Nat} {oa : Option Addr} {l : List Ev} {s : Gs} (h : GW w N R (.slice oa l.length c) s) (hA : EsAt w oa l) {i : Nat} {e : Ev} (hi : l[i]? = some e) (hg : e.k ≠ 13 → 0 ≤ e.g) (hst : s.st.length ≤ 3000) (hNw : N ≤ w.heap.size) :
    Calls Tryz.prog 50 #[.pointer (some ⟨R, 0, none⟩), .int .i64 (i : Int)] w fun r w' => GoP (r2 s.st s.pn e) N R (.slice oa l.length c) s w r w' := by
  obtain ⟨mb, vs, D, cs, h⟩ := h
  have hil : i < l.length := (List.getElem?_eq_some_iff.1 hi).1
  obtain ⟨b1, o1, rfl, -⟩ := hA i e hi
  obtain ⟨p0, p1, p2, p3, p4, p5, p6, p7⟩ := hA.read hi
  have hiM : (i : Int) < (l.length : Int) := by omega
  clear hA hi
  generalize l.length = M at *
  obtain ⟨va, vc, rfl⟩ := own_sl h.st
  have H0 := hide h
  have H1 := hide (h.below (below_alloc w (.cells #[.int .i64 e.k, .int .i64 e.g, .int .i64 e.c, .int .i64 e.a, .int .i64 e.v, .int .i64 e.m, .bool e.s, .bool e.o] 23)))
  have E1 := hide (heap_new w (.cells #[.int .i64 e.k, .int .i64 e.g, .int .i64 e.c, .int .i64 e.a, .int .i64 e.v, .int .i64 e.m, .bool e.s, .bool e.o] 23))
  have B1 := hide (Fb.of (below_alloc w (.cells #[.int .i64 e.k, .int .i64 e.g, .int .i64 e.c, .int .i64 e.a, .int .i64 e.v, .int .i64 e.m, .bool e.s, .bool e.o] 23)) hNw)
  have hRw : R < w.heap.size := heap_lt h.hR
  have c0 : w.cell? ⟨R, 0, none⟩ = some (.slice (some ⟨b1, o1, none⟩) M c) := cell_of h.hR 0
  have RR : ∀ q, Hid (r2 s.st s.pn e = q) → Hid (r2 s.st s.pn e = q) := fun _ h => h
  clear RR
  obtain ⟨R2, hR2⟩ : ∃ R2, r2 s.st s.pn e = R2 := ⟨_, rfl⟩
  rw [hR2]
  unfold r2 at hR2
  clear h
  obtain ⟨E, hE⟩ : ∃ E, w.heap.size = E := ⟨_, rfl⟩
  go_enter Tryz.func50, Tryz.ntmps50
  go_upto_region 2 with fail
  rw [hE] at E1 hRw
  clear p0 p1 p2 p3 p4 p5 p6 p7 hE c0
  generalize w.alloc (.cells #[.int .i64 e.k, .int .i64 e.g, .int .i64 e.c, .int .i64 e.a, .int .i64 e.v, .int .i64 e.m, .bool e.s, .bool e.o] 23) = W1 at *
  have c0 : W1.cell? ⟨R, 0, none⟩ = some (.slice (some ⟨b1, o1, none⟩) M c) := cell_of H1.out.hR 0
  have c1 : W1.cell? ⟨R, 1, none⟩ = some (.slice va s.st.length vc) := cell_of H1.out.hR 1
  have c3 : W1.cell? ⟨R, 3, none⟩ = some (.bool s.pn) := cell_of H1.out.hR 3
  have v0 : W1.cell? ⟨E, 0, none⟩ = some (.int .i64 e.k) := cell_of E1.out 0
  have v1 : W1.cell? ⟨E, 1, none⟩ = some (.int .i64 e.g) := cell_of E1.out 1
  have v5 : W1.cell? ⟨E, 5, none⟩ = some (.int .i64 e.m) := cell_of E1.out 5
  cases hpn : s.pn
  case true =>
    rw [hpn] at hR2 c3
    rw [if_pos rfl] at hR2
    go_wp2_with fail
    go_ret
    exact GoP.no hR2.symm B1.out
  rw [hpn] at hR2 c3
  rw [if_neg (by simp)] at hR2
  by_cases h13 : e.k = 13
  · rw [if_pos h13] at hR2
    have d13 : (e.k == 13) = true := by simp [h13]
    go_wp2_with fail
    go_ret
    have hse : ({ s with st := s.st, pn := false } : Gs) = s := by rw [← hpn]
    exact GoP.yes hR2.symm (by rw [hse]; exact H1.out) B1.out
  have d13 : (e.k == 13) = false := by simp [h13]
  have g0 := hg h13
  rw [if_neg h13] at hR2
  by_cases hge : (s.st.length : Int) ≤ e.g
  · rw [if_pos hge] at hR2
    have dge : decide ((s.st.length : Int) ≤ e.g) = true := decide_eq_true hge
    clear hg
    generalize s.st.length = SL at *
    go_wp2_with fail
    go_quiet (fail)
    go_wp2_with fail
    go_ret
    exact GoP.no hR2.symm (B1.out.trans (Fb.of (bdrew _ _) (by have := B1.out.size; omega)))
  have dge : decide ((s.st.length : Int) ≤ e.g) = false := decide_eq_false hge
  rw [if_neg hge] at hR2
  obtain ⟨j, hj⟩ : ∃ j : Nat, e.g = (j : Int) := ⟨e.g.toNat, by omega⟩
  rw [hj] at v1 hR2 dge
  rw [Int.toNat_natCast] at hR2
  have hjl : j < s.st.length := by omega
  have hjl' : (j : Int) < (s.st.length : Int) := by omega
  obtain ⟨sg, rfl⟩ : ∃ sg, va = some ⟨sg, 0, none⟩ := by
    rcases H1.out.st.2 with ⟨e0, h0⟩ | ⟨g, cap, cur, e0, -⟩
    · omega
    · cases e0; exact ⟨g, rfl⟩
  obtain ⟨sc, sf, sN⟩ := own_st_cell H1.out.st j hjl
  have HL := hide hjl
  have MY := hide (fun q => mayDo_any (s.st.getD j 0) e.k (W1.drewN q))
  obtain ⟨my, hmy⟩ : ∃ my, may (s.st.getD j 0) e.k = my := ⟨_, rfl⟩
  rw [hmy] at hR2 MY
  obtain ⟨tv, htv⟩ : ∃ tv, s.st.getD j 0 = tv := ⟨_, rfl⟩
  rw [htv] at sc MY
  obtain ⟨SL, hSL⟩ : ∃ SL, s.st.length = SL := ⟨_, rfl⟩
  have HSL := hide hSL
  rw [hSL] at c1 dge hjl hjl' hR2 hst
  have dgeN : decide (SL ≤ j) = false := by simp; omega
  have HJ := hide hj
  have HTV := hide htv
  clear hmy htv hj hg hge g0 h13 hSL
  go_upto_region 6 with fail
  go_cut [41] (fun s41 wc => s41 = .bool (!my) ∧ ∃ q, wc = W1.drewN q)
  case first =>
    go_quiet ((go_at_call 73; exact Calls.quiet_of_same (MY.out _)))
    go_wp2_with fail
    go_meet
    case rel => exact ⟨rfl, _, rfl⟩
  case rest =>
  obtain ⟨rfl, q1, e1⟩ := hcut
  have K1 : Below W1.heap.size W1 wc := by rw [e1]; exact bdrew _ _
  have H2 := hide (H1.out.below K1)
  have E2 := hide (heap_below E1.out K1)
  have B2 := hide (B1.out.trans (Fb.of K1 (by have := B1.out.size; omega)))
  clear e1 K1 c0 c1 c3 v0 v1 v5 sc sf H1 E1 B1 MY
  rename World => W2
  have c1 : W2.cell? ⟨R, 1, none⟩ = some (.slice (some ⟨sg, 0, none⟩) SL vc) := by rw [← HSL.out]; exact cell_of H2.out.hR 1
  have c3 : W2.cell? ⟨R, 3, none⟩ = some (.bool false) := by rw [← hpn]; exact cell_of H2.out.hR 3
  have v0 : W2.cell? ⟨E, 0, none⟩ = some (.int .i64 e.k) := cell_of E2.out 0
  have v5 : W2.cell? ⟨E, 5, none⟩ = some (.int .i64 e.m) := cell_of E2.out 5
  have v1 : W2.cell? ⟨E, 1, none⟩ = some (.int .i64 (j : Int)) := by rw [← HJ.out]; exact cell_of E2.out 1
  obtain ⟨sc0, sf, -⟩ := own_st_cell H2.out.st j HL.out
  have sc : W2.cell? ⟨sg, j, none⟩ = some (.int .i64 tv) := by rw [← HTV.out]; exact sc0
  have SAME : Hid (∀ (u : World) (st : List Int) (vv : Value), GR u N R mb (.slice (some ⟨b1, o1, none⟩) M c) vv D cs { s with st := st } → GR u N R mb (.slice (some ⟨b1, o1, none⟩) M c) vv D cs { s with st := st, pn := false }) := fun u st vv h => by rw [← hpn]; exact h
  clear sc0
  cases my
  · rw [if_pos rfl] at hR2
    go_wp2_with fail
    go_ret
    exact GoP.no hR2.symm B2.out
  rw [if_neg (by simp)] at hR2
  by_cases k1 : e.k = 1
  · rw [if_pos k1] at hR2
    have d1 : (e.k == 1) = true := by simp [k1]
    clear k1
    by_cases hmm : e.m = (SL : Int)
    case neg =>
      rw [if_pos hmm] at hR2
      have dm : (e.m != (SL : Int)) = true := by simp [hmm]
      go_wp2_with fail
      go_quiet (fail)
      go_wp2_with fail
      go_ret
      exact GoP.no hR2.symm (B2.out.trans (Fb.of (bdrew _ _) (by have := B2.out.size; omega)))
    rw [if_neg (by simp [hmm])] at hR2
    have dm : (e.m != (SL : Int)) = false := by simp [hmm]
    clear hmm
    obtain ⟨i0, hi0, hz0, hz1, hz2⟩ := info_parts info_int
    have INF := hide (And.intro hi0 (And.intro hz0 (And.intro hz1 hz2)))
    clear hi0 hz0 hz1 hz2
    go_upto_region 10 with fail
    go_cut [53] (fun s53 wc => s53 = .bool false ∧ ∃ q, wc = W2.drewN q)
    case first =>
      go_quiet (fail)
      go_wp2_with fail
      go_meet
      case rel => exact ⟨rfl, _, rfl⟩
    case rest =>
    obtain ⟨rfl, q2, e2⟩ := hcut
    have K2 : Below W2.heap.size W2 wc := by rw [e2]; exact bdrew _ _
    have H3 := hide (H2.out.below K2)
    have B3 := hide (B2.out.trans (Fb.of K2 (by have := B2.out.size; omega)))
    clear e2 K2 c1 c3 v0 v5 v1 sc sf H2 E2 B2
    rename World => W3
    have c1 : W3.cell? ⟨R, 1, none⟩ = some (.slice (some ⟨sg, 0, none⟩) SL vc) := by rw [← HSL.out]; exact cell_of H3.out.hR 1
    have H4 := hide (H3.out.below (below_alloc W3 (.cells #[.int .i64 0] 3)))
    have B4 := hide (B3.out.trans (Fb.of (below_alloc W3 (.cells #[.int .i64 0] 3)) (by have := B3.out.size; omega)))
    have SRC := hide (cell_one_new W3 (.int .i64 0) 3)
    have OW : Hid ((W3.alloc (.cells #[.int .i64 0] 3)).ownsRow N 3 1 (.slice (some ⟨sg, 0, none⟩) SL vc) SL (ic s.st)) := by rw [← HSL.out]; exact H4.out.st
    go_wp2_with (at_builtin; refine wpList_append_own_at _ rfl _ _ 27 rfl N 3 i0 (.int .i64 0) 1 8 Tryz.underlying27 INF.out.1 INF.out.2.1 INF.out.2.2.1 INF.out.2.2.2 rfl (by decide) _ _ _ rfl OW.out ⟨W3.heap.size, 0, none⟩ 1 1 [.int .i64 0] rfl rfl ?c1 ?c2 ?c3 ?c4 ?c5 ?_)
    case c1 => exact SRC.out
    case c2 => exact ic_one [0]
    case c3 => unfold maxLen; omega
    case c4 => omega
    case c5 => have := B4.out.size; omega
    intro v' w4 ho hg4 _ hat
    have O4 : Hid (w4.ownsRow N 3 1 v' (s.st ++ [0]).length (ic (s.st ++ [0]))) := by
      show World.ownsRow _ _ _ _ _ _ _
      rw [ic_app, List.length_append, HSL.out]; exact ho
    obtain ⟨oa4, cc4, rfl⟩ := own_sl O4.out
    have H5 := hide (H4.out.row hg4 O4.out (hat.imp id (fun q => by rw [World.size_alloc]; exact q)))
    have B5 := hide (Fb.row B4.out H4.out (by rw [HSL.out]; exact hg4) (below_set (i := 1) (v := .slice oa4 (s.st ++ [0]).length cc4) (B4.out.b.grown hg4 (by have := B4.out.size; omega) (fun x hx => (OW.out.lt x hx).1)) H3.out.hN.1))
    have hR4 : w4.heap[R]? = _ := (hg4.block R (heap_lt H4.out.hR) (fun e => H4.out.noR.1 e.symm)).trans H4.out.hR
    have e1 : w4.cell? ⟨R, 1, none⟩ = some (.slice (some ⟨sg, 0, none⟩) s.st.length vc) := cell_of hR4 1
    have z1 := frozen_of hR4 1
    obtain ⟨LL, hLL⟩ : ∃ LL, (s.st ++ [0]).length = LL := ⟨_, rfl⟩
    rw [hLL] at H5 B5 ⊢
    clear ho hg4 hat hR4 hLL O4
    go_wp2_with fail
    go_ret
    exact GoP.yes hR2.symm (SAME.out _ _ _ H5.out) B5.out
  have d1 : (e.k == 1) = false := by simp [k1]
  rw [if_neg k1] at hR2
  by_cases k6 : e.k = 6
  · rw [if_pos k6] at hR2
    have d6 : (e.k == 6) = true := by simp [k6]
    have H3 := hide ((H2.out.below (bdrew1 _)).set j 1)
    have B3 := hide (Fb.setS (i := j) (v := .int .i64 1) (B2.out.trans (Fb.of (bdrew1 W2) (by have := B2.out.size; omega))) (H2.out.below (bdrew1 _)) sN)
    have c1' : W2.drew.cell? ⟨R, 1, none⟩ = some (.slice (some ⟨sg, 0, none⟩) SL vc) := c1
    have v1' : W2.drew.cell? ⟨E, 1, none⟩ = some (.int .i64 (j : Int)) := v1
    have sc' : W2.drew.cell? ⟨sg, j, none⟩ = some (.int .i64 tv) := sc
    have sf' : W2.drew.frozen? ⟨sg, j, none⟩ = false := sf
    clear k6
    go_upto_region 14 with fail
    go_region
    all_goals
      go_wp2_with fail
      go_ret
      exact GoP.yes hR2.symm (SAME.out _ _ _ H3.out) B3.out
  have d6 : (e.k == 6) = false := by simp [k6]
  rw [if_neg k6] at hR2
  by_cases k7 : e.k = 7
  · rw [if_pos k7] at hR2
    have d7 : (e.k == 7) = true := by simp [k7]
    have H3 := hide ((H2.out.below (bdrew1 _)).set j 0)
    have B3 := hide (Fb.setS (i := j) (v := .int .i64 0) (B2.out.trans (Fb.of (bdrew1 W2) (by have := B2.out.size; omega))) (H2.out.below (bdrew1 _)) sN)
    have c1' : W2.drew.cell? ⟨R, 1, none⟩ = some (.slice (some ⟨sg, 0, none⟩) SL vc) := c1
    have v1' : W2.drew.cell? ⟨E, 1, none⟩ = some (.int .i64 (j : Int)) := v1
    have sc' : W2.drew.cell? ⟨sg, j, none⟩ = some (.int .i64 tv) := sc
    have sf' : W2.drew.frozen? ⟨sg, j, none⟩ = false := sf
    clear k7
    go_upto_region 16 with fail
    go_region
    all_goals
      go_wp2_with fail
      go_ret
      exact GoP.yes hR2.symm (SAME.out _ _ _ H3.out) B3.out
  have d7 : (e.k == 7) = false := by simp [k7]
  rw [if_neg k7] at hR2
  by_cases k11 : e.k = 11
  · rw [if_pos k11] at hR2
    have d11 : (e.k == 11) = true := by simp [k11]
    have H3 := hide ((H2.out.below (bdrew1 _)).set j 2)
    have B3 := hide (Fb.setS (i := j) (v := .int .i64 2) (B2.out.trans (Fb.of (bdrew1 W2) (by have := B2.out.size; omega))) (H2.out.below (bdrew1 _)) sN)
    have c1' : W2.drew.cell? ⟨R, 1, none⟩ = some (.slice (some ⟨sg, 0, none⟩) SL vc) := c1
    have v1' : W2.drew.cell? ⟨E, 1, none⟩ = some (.int .i64 (j : Int)) := v1
    have sc' : W2.drew.cell? ⟨sg, j, none⟩ = some (.int .i64 tv) := sc
    have sf' : W2.drew.frozen? ⟨sg, j, none⟩ = false := sf
    clear k11
    go_upto_region 18 with fail
    go_region
    all_goals
      go_wp2_with fail
      go_ret
      exact GoP.yes hR2.symm (SAME.out _ _ _ H3.out) B3.out
  have d11 : (e.k == 11) = false := by simp [k11]
  rw [if_neg k11] at hR2
  by_cases k12 : e.k = 12
  · rw [if_pos k12] at hR2
    have d12 : (e.k == 12) = true := by simp [k12]
    have z3 := frozen_of H2.out.hR 3
    have H3 := hide (H2.out.setR ((KB.refl R W2).setCell 3 (.bool true)) (s' := { s with pn := true }) (Ba.heap_setCell_same H2.out.hR _) rfl rfl rfl)
    have B3 := hide (Fb.setR (i := 3) (v := .bool true) B2.out H2.out)
    clear k12
    go_wp2_with fail
    go_ret
    exact GoP.yes hR2.symm H3.out B3.out
  have d12 : (e.k == 12) = false := by simp [k12]
  rw [if_neg k12] at hR2
  go_wp2_with fail
  go_ret
  exact GoP.yes hR2.symm (SAME.out _ _ _ H2.out) B2.out
end Gu
end Go.Proofs.YtakbbhngcdccpaaGreat
