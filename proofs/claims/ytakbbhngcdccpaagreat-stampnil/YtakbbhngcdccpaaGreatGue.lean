/- The gauge's reader, over this seat's program: order (rule 5). -/
import Derived.Test.YtakbbhngcdccpaaGreatGud
import Derived.Deep.CutBlock
namespace Go.Proofs.YtakbbhngcdccpaaGreat
open Go.ChangeShapes Go.WideShapes Go.ChangeAt Go.RowKit
namespace Gu
open En Ba

/-- values that lie apart from the reader's others -/
structure Ap (mb : Nat) (vs : Value) (cs : List Sv) (j : Nat) (x : Sv) : Prop where
  d : ∀ (k : Nat) z, cs[k]? = some z → k ≠ j → x.nil = false → z.nil = false → x.b ≠ z.b
  v : x.nil = false → vs.ownBlock ≠ some x.b
  m : x.nil = false → x.b ≠ mb
section
variable {w w' : World} {N R mb : Nat} {ev vs : Value} {D : DataW Unit} {cs : List Sv} {s : Gs}
theorem GR.ap (h : GR w N R mb ev vs D cs s) {j : Nat} {x : Sv} (hx : cs[j]? = some x) : Ap mb vs cs j x :=
  ⟨fun k z hz hne q1 q2 => h.dj j k x z hx hz (Ne.symm hne) q1 q2, fun q => h.dv j x hx q, fun q => h.noM.2 j x hx q⟩
/-- a value is put behind a channel's values: the reader stays, and so does what is no row of numbers -/
theorem GR.app (h : GR w N R mb ev vs D cs s) (hNw : N ≤ w.heap.size) {j : Nat} {x : Sv} {d : Chn} (hx : cs[j]? = some x) (hd : s.ch[j]? = some d) (hl : d.vs.length ≤ 4000) (y : Int) :
    ∃ (x' : Sv) (w' : World), (Builtin.append_ #[27, 27] 27 #[svs x, .slice (some ⟨w.heap.size, 0, none⟩) 1 1]).run Tryz.prog (w.alloc (.cells #[.int .i64 y] 3)) = .ok (svs x') w' ∧ VR w' N x' (d.vs ++ [y]) ∧ x'.nil = false ∧ x'.cap = x.cap ∧ x'.cl = x.cl ∧ GR w' N R mb ev vs D cs s ∧ Ap mb vs cs j x' ∧ Fb N w w' ∧ (∀ (b : Nat) (cc : Array Value) (t : TypeId), w.heap[b]? = some (.cells cc t (0, 0)) → t ≠ 3 → w'.heap[b]? = some (.cells cc t (0, 0))) := by
  obtain ⟨vr, -, -⟩ := h.ch j x d hx hd
  obtain ⟨x', w', hr, hv, hn, hcap, hcl, hg, hat, hx'⟩ := vr.app hl hNw y
  have ap := h.ap hx
  have g1 : ∀ {b : Nat} {o : Obj}, w.heap[b]? = some o → (x.nil = false → b ≠ x.b) → w'.heap[b]? = some o := fun {b o} hb hne => by
    have hb' := heap_below hb (below_alloc w (.cells #[.int .i64 y] 3))
    refine (hg.block b (heap_lt hb') fun q => ?_).trans hb'
    cases hq : x.nil
    · rw [hq] at q; simp at q; exact hne hq q
    · rw [hq] at q; simp at q
  have hrow : x.nil = false → ∃ cur, w.heap[x.b]? = some (.cells cur 3 (0, 0)) := fun q => by
    obtain ⟨-, cur, hb, -⟩ := vr.row q
    exact ⟨cur, hb⟩
  have hG : GR w' N R mb ev vs D cs s := by
    refine ⟨h.hN, g1 h.hR (fun q e => h.noR.2.2 j x hx q e.symm), ⟨h.st.1, ?_⟩, ?_, h.mi, h.len, fun k z c hz hc => ?_, h.dj, h.dv⟩
    · rcases h.st.2 with q | ⟨g, cap, cur, q1, q2, q3, q4⟩
      · exact .inl q
      · exact .inr ⟨g, cap, cur, q1, q2, g1 q3 (fun q e => ap.v q (by rw [q1, e]; rfl)), q4⟩
    · obtain ⟨es, ck, hb, r⟩ := h.mp
      exact ⟨es, ck, g1 hb (fun q e => ap.m q e.symm), r⟩
    · obtain ⟨v, r⟩ := h.ch k z c hz hc
      by_cases hk : k = j
      · subst hk
        rw [hx] at hz; cases hz
        rw [hd] at hc; cases hc
        exact ⟨hx', r⟩
      · refine ⟨v.keep fun q => ?_, r⟩
        obtain ⟨-, cur, hb, -⟩ := v.row q
        rw [g1 hb (fun q' e => ap.d k z hz hk q' q e.symm), hb]
  refine ⟨x', w', hr, hv, hn, hcap, hcl, hG, ?_, ?_, fun b cc t hb ht => g1 hb fun q e => ?_⟩
  · rcases hat with ⟨q, e⟩ | e
    · exact ⟨fun k z hz hne _ q2 => by rw [e]; exact ap.d k z hz hne q q2, fun _ => by rw [e]; exact ap.v q, fun _ => by rw [e]; exact ap.m q⟩
    · refine ⟨fun k z hz hne _ q2 e2 => ?_, fun _ e2 => ?_, fun _ e2 => ?_⟩
      · have hil : k < cs.length := (List.getElem?_eq_some_iff.1 hz).1
        obtain ⟨c, hc⟩ : ∃ c, s.ch[k]? = some c := ⟨_, List.getElem?_eq_getElem (by rw [← h.len]; exact hil)⟩
        obtain ⟨-, cur, hb, -⟩ := (h.ch k z c hz hc).1.row q2
        have := heap_lt hb
        omega
      · have := (h.st.lt _ e2).2
        omega
      · have := h.mp.lt
        omega
  · have hsz := hg.size
    rw [World.size_alloc] at hsz
    refine ⟨⟨hg.os, hg.tape, hg.output, by omega, fun k hk => (hg.block k (by rw [World.size_alloc]; omega) fun q => ?_).trans ((below_alloc w _).block k (by omega))⟩, fun k cc hk => g1 hk fun q e => by obtain ⟨cur, hb'⟩ := hrow q; rw [e, hb'] at hk; cases hk⟩
    cases hq : x.nil
    · rw [hq] at q; simp at q; obtain ⟨h1, -⟩ := vr.row hq; omega
    · rw [hq] at q; simp at q
  · obtain ⟨cur, hb'⟩ := hrow q
    rw [e, hb'] at hb
    cases hb
    exact ht rfl
/-- behind what an event puts in -/
def O5 (w wc : World) (N R mb : Nat) (ev vs : Value) (D : DataW Unit) (cs : List Sv) (s : Gs) (e : Ev) (d : Chn) (L : List Int) (j E C : Nat) : Prop :=
  ∃ x', GR wc N R mb ev vs D cs s ∧ VR wc N x' L ∧ Ap mb vs cs j x' ∧ x'.cap = d.cap ∧ x'.cl = d.cl ∧ wc.heap[E]? = some (.cells #[.int .i64 e.k, .int .i64 e.g, .int .i64 e.c, .int .i64 e.a, .int .i64 e.v, .int .i64 e.m, .bool e.s, .bool e.o] 23) ∧ wc.heap[C]? = some (.cells #[.int .i64 x'.cap, svs x', .bool x'.cl] 116 (0, 0)) ∧ Fb N w wc
theorem VR.noC {x : Sv} {L : List Int} {C : Nat} {cc : Array Value} (h : VR w N x L) (hC : w.heap[C]? = some (.cells cc 116 (0, 0))) (k : KB C w w') : VR w' N x L := h.keep fun q => by
  obtain ⟨-, cur, hb, -⟩ := h.row q
  rw [k.heap hb (fun e => by rw [e, hC] at hb; cases hb), hb]
theorem ev_noC {e : Ev} {E C : Nat} {cc : Array Value} (hE : w.heap[E]? = some (.cells #[.int .i64 e.k, .int .i64 e.g, .int .i64 e.c, .int .i64 e.a, .int .i64 e.v, .int .i64 e.m, .bool e.s, .bool e.o] 23)) (hC : w.heap[C]? = some (.cells cc 116 (0, 0))) (k : KB C w w') : w'.heap[E]? = some (.cells #[.int .i64 e.k, .int .i64 e.g, .int .i64 e.c, .int .i64 e.a, .int .i64 e.v, .int .i64 e.m, .bool e.s, .bool e.o] 23) :=
  k.heap hE (fun q => by rw [q, hC] at hE; cases hE)
theorem O5.put {w0 : World} {e : Ev} {d : Chn} {L : List Int} {j E C : Nat} {x' x : Sv} {old : Value} (g : GR w N R mb ev vs D cs s) (vr : VR w N x' L) (ap : Ap mb vs cs j x') (h1 : x'.cap = x.cap) (h2 : x'.cl = x.cl) (h3 : x.cap = d.cap) (h4 : x.cl = d.cl) (hE : w.heap[E]? = some (.cells #[.int .i64 e.k, .int .i64 e.g, .int .i64 e.c, .int .i64 e.a, .int .i64 e.v, .int .i64 e.m, .bool e.s, .bool e.o] 23)) (hC : w.heap[C]? = some (.cells #[.int .i64 x.cap, old, .bool x.cl] 116 (0, 0))) (hCN : N ≤ C) (hN : N ≤ w0.heap.size) (b : Fb N w0 w) {v : Value} (hv : v = svs x') :
    O5 w0 (w.setCell ⟨C, 1, none⟩ v) N R mb ev vs D cs s e d L j E C := by
  subst hv
  have K := (KB.refl C w).setCell 1 (svs x')
  refine ⟨x', g.kb hC K, vr.noC hC K, ap, h1.trans h3, h2.trans h4, ev_noC hE hC K, ?_, b.kb K hCN hN hC (by decide)⟩
  have := Ba.heap_setCell_same (i := 1) hC (svs x')
  rw [h1, h2]
  exact this
end
set_option maxRecDepth 100000 in
set_option maxHeartbeats 6400000 in
theorem ord_any {w : World} {N R c : Nat} {oa : Option Addr} {l : List Ev} {s : Gs} (h : GW w N R (.slice oa l.length c) s) (hA : EsAt w oa l) {i : Nat} {e : Ev} (hi : l[i]? = some e) (hc : -1 ≤ e.c ∧ e.c ≤ 511) (hin : moves e = true → 0 ≤ e.c ∧ e.c < s.ch.length) (hch : s.ch.length ≤ 3000) (hvs : ∀ (j : Nat) d, s.ch[j]? = some d → d.vs.length ≤ 3000) (hll : l.length ≤ 4000) (hNw : N ≤ w.heap.size) :
    Calls Tryz.prog 53 #[.pointer (some ⟨R, 0, none⟩), .int .i64 (i : Int)] w fun r w' => ChP (r5 s.ch e l[i + 1]?) N R (.slice oa l.length c) s w r w' := by
  obtain ⟨mb, vs, D, cs, h⟩ := h
  have hil : i < l.length := (List.getElem?_eq_some_iff.1 hi).1
  have hnx : ∀ x, l[i + 1]? = some x → i + 1 < l.length := fun x hx => (List.getElem?_eq_some_iff.1 hx).1
  have hnn : l[i + 1]? = none → l.length ≤ i + 1 := fun q => List.getElem?_eq_none_iff.1 q
  obtain ⟨b1, o1, rfl, -⟩ := hA i e hi
  obtain ⟨p0, p1, p2, p3, p4, p5, p6, p7⟩ := hA.read hi
  have hiM : (i : Int) < (l.length : Int) := by omega
  have HA := hide hA
  clear hA hi
  have H1 := hide (h.below (below_alloc w (.cells #[.int .i64 e.k, .int .i64 e.g, .int .i64 e.c, .int .i64 e.a, .int .i64 e.v, .int .i64 e.m, .bool e.s, .bool e.o] 23)))
  have E1 := hide (heap_new w (.cells #[.int .i64 e.k, .int .i64 e.g, .int .i64 e.c, .int .i64 e.a, .int .i64 e.v, .int .i64 e.m, .bool e.s, .bool e.o] 23))
  have B1 := hide (Fb.of (below_alloc w (.cells #[.int .i64 e.k, .int .i64 e.g, .int .i64 e.c, .int .i64 e.a, .int .i64 e.v, .int .i64 e.m, .bool e.s, .bool e.o] 23)) hNw)
  have BW := hide (below_alloc w (.cells #[.int .i64 e.k, .int .i64 e.g, .int .i64 e.c, .int .i64 e.a, .int .i64 e.v, .int .i64 e.m, .bool e.s, .bool e.o] 23))
  have c0 : w.cell? ⟨R, 0, none⟩ = some (.slice (some ⟨b1, o1, none⟩) l.length c) := cell_of h.hR 0
  have hRw : R < w.heap.size := heap_lt h.hR
  obtain ⟨R5, hR5⟩ : ∃ R5, r5 s.ch e l[i + 1]? = R5 := ⟨_, rfl⟩
  rw [hR5]
  unfold r5 moves at hR5
  unfold moves at hin
  clear h
  obtain ⟨E, hE⟩ : ∃ E, w.heap.size = E := ⟨_, rfl⟩
  have SM : Hid (∀ u D vs cs, GR u N R mb (.slice (some ⟨b1, o1, none⟩) l.length c) vs D cs s → GR u N R mb (.slice (some ⟨b1, o1, none⟩) l.length c) vs D cs { s with ch := s.ch }) := fun _ _ _ _ h => h
  by_cases hm : e.k = 3 ∨ (e.k = 4 ∧ e.o = true)
  case neg =>
    rw [if_neg (by simpa using hm)] at hR5
    have d3 : (e.k == 3) = false := by simp; exact fun q => hm (.inl q)
    have SAME := hide (SM.out _ _ _ _ H1.out)
    have v0 : (w.alloc (.cells #[.int .i64 e.k, .int .i64 e.g, .int .i64 e.c, .int .i64 e.a, .int .i64 e.v, .int .i64 e.m, .bool e.s, .bool e.o] 23)).cell? ⟨w.heap.size, 0, none⟩ = some (.int .i64 e.k) := cell_of E1.out 0
    have v5 : (w.alloc (.cells #[.int .i64 e.k, .int .i64 e.g, .int .i64 e.c, .int .i64 e.a, .int .i64 e.v, .int .i64 e.m, .bool e.s, .bool e.o] 23)).cell? ⟨w.heap.size, 5, none⟩ = some (.int .i64 e.m) := cell_of E1.out 5
    have v7 : (w.alloc (.cells #[.int .i64 e.k, .int .i64 e.g, .int .i64 e.c, .int .i64 e.a, .int .i64 e.v, .int .i64 e.m, .bool e.s, .bool e.o] 23)).cell? ⟨w.heap.size, 7, none⟩ = some (.bool e.o) := cell_of E1.out 7
    clear hE
    cases d4 : (e.k == 4)
    · go_enter Tryz.func53, Tryz.ntmps53
      go_upto_region 2 with fail
      clear p0 p1 p2 p3 p4 p5 p6 p7 c0
      generalize w.alloc (.cells #[.int .i64 e.k, .int .i64 e.g, .int .i64 e.c, .int .i64 e.a, .int .i64 e.v, .int .i64 e.m, .bool e.s, .bool e.o] 23) = W1 at *
      go_quiet (fail)
      go_wp2_with fail
      go_ret
      exact ChP.yes hR5.symm (SAME.out.below (bdrew _ _)) (B1.out.trans (Fb.of (bdrew _ _) (by have := B1.out.size; omega)))
    · have ho : e.o = false := by cases q : e.o; rfl; exact absurd (.inr ⟨by simpa using d4, q⟩) hm
      clear hm
      have HO := hide ho
      clear ho
      go_enter Tryz.func53, Tryz.ntmps53
      go_upto_region 2 with fail
      clear p0 p1 p2 p3 p4 p5 p6 p7 c0
      generalize w.alloc (.cells #[.int .i64 e.k, .int .i64 e.g, .int .i64 e.c, .int .i64 e.a, .int .i64 e.v, .int .i64 e.m, .bool e.s, .bool e.o] 23) = W1 at *
      rw [HO.out] at v7
      go_quiet (fail)
      go_wp2_with fail
      go_ret
      exact ChP.yes hR5.symm (SAME.out.below (bdrew _ _)) (B1.out.trans (Fb.of (bdrew _ _) (by have := B1.out.size; omega)))
  have hmv : (decide (e.k = 3) || (decide (e.k = 4) && e.o)) = true := by simpa using hm
  rw [if_pos hmv] at hR5
  obtain ⟨g0, g1⟩ := hin hmv
  obtain ⟨j, hj⟩ : ∃ j : Nat, e.c = (j : Int) := ⟨e.c.toNat, by omega⟩
  have hjl : j < s.ch.length := by omega
  obtain ⟨d, hd⟩ : ∃ d, s.ch[j]? = some d := ⟨_, List.getElem?_eq_getElem hjl⟩
  have hgd : s.ch.getD e.c.toNat chz = d := by rw [hj, Int.toNat_natCast, List.getD_eq_getElem?_getD, hd]; rfl
  rw [hgd, hj, Int.toNat_natCast] at hR5
  obtain ⟨x, hxj⟩ : ∃ x, cs[j]? = some x := ⟨_, List.getElem?_eq_getElem (by rw [H1.out.len]; exact hjl)⟩
  have hnb : d.vs.length ≤ 3000 := hvs j d hd
  have HR5 := hide hR5
  obtain ⟨sv, hsv⟩ : ∃ b, (e.m != -1) = b := ⟨_, rfl⟩
  have HSV : Hid ((sv = true ∧ e.m ≠ -1) ∨ (sv = false ∧ e.m = -1)) := by
    cases sv
    · exact .inr ⟨rfl, by simpa using hsv⟩
    · exact .inl ⟨rfl, by simpa using hsv⟩
  obtain ⟨snt, rcv, HSR⟩ : ∃ snt rcv, Hid ((snt = true ∧ rcv = false ∧ e.k = 3) ∨ (snt = false ∧ rcv = true ∧ e.k = 4 ∧ e.o = true)) := by
    rcases hm with q | q
    · exact ⟨true, false, .inl ⟨rfl, rfl, q⟩⟩
    · exact ⟨false, true, .inr ⟨rfl, rfl, q⟩⟩
  have HJ := hide hj
  clear hmv hm hR5 hgd hin hvs hj
  go_enter Tryz.func53, Tryz.ntmps53
  go_upto_region 2 with fail
  rw [hE] at E1 hRw
  clear p0 p1 p2 p3 p4 p5 p6 p7 c0
  have HE := hide hE
  clear hE
  generalize w.alloc (.cells #[.int .i64 e.k, .int .i64 e.g, .int .i64 e.c, .int .i64 e.a, .int .i64 e.v, .int .i64 e.m, .bool e.s, .bool e.o] 23) = W1 at *
  have v0 : W1.cell? ⟨E, 0, none⟩ = some (.int .i64 e.k) := cell_of E1.out 0
  have v5 : W1.cell? ⟨E, 5, none⟩ = some (.int .i64 e.m) := cell_of E1.out 5
  have v7 : W1.cell? ⟨E, 7, none⟩ = some (.bool e.o) := cell_of E1.out 7
  go_cut [6, 7, 8] (fun s6 s7 s8 wc => s6 = .bool snt ∧ s7 = .bool rcv ∧ s8 = .bool sv ∧ ∃ q, wc = W1.drewN q)
  case first =>
    rcases HSR.out with ⟨rfl, rfl, hk⟩ | ⟨rfl, rfl, hk, ho⟩
    · have d3 : (e.k == 3) = true := by simp [hk]
      have d4 : (e.k == 4) = false := by simp [hk]
      clear hk
      go_quiet (fail)
      go_wp2_with fail
      go_meet
      case rel => exact ⟨rfl, rfl, rfl, _, rfl⟩
    · have d3 : (e.k == 3) = false := by simp [hk]
      have d4 : (e.k == 4) = true := by simp [hk]
      rw [ho] at v7
      clear hk ho
      go_quiet (fail)
      go_wp2_with fail
      go_meet
      case rel => exact ⟨rfl, rfl, rfl, _, rfl⟩
  case rest =>
  obtain ⟨rfl, rfl, rfl, q1, e1⟩ := hcut
  have K1 : Below W1.heap.size W1 wc := by rw [e1]; exact bdrew _ _
  have G1 := hide (H1.out.below K1)
  have F1 := hide (heap_below E1.out K1)
  have B0 := hide (B1.out.trans (Fb.of K1 (by have := B1.out.size; omega)))
  have BV := hide (BW.out.trans (K1.mono (by have := BW.out.size; omega)))
  clear e1 v0 v5 v7 hsv H1 E1 B1 BW K1
  rename World => W1
  have H1 := G1
  have E1 := F1
  have B1 := B0
  have BW := BV
  clear G1 F1 B0 BV
  go_upto_region 3 with fail
  go_cut [35] (fun s35 wc => s35 = .bool false ∧ wc = W1)
  case first =>
    rcases HSR.out with ⟨rfl, rfl, hk⟩ | ⟨rfl, rfl, hk, ho⟩
    · clear hk
      go_wp2_with fail
      go_meet
      case rel => exact ⟨rfl, rfl⟩
    · clear hk ho
      go_wp2_with fail
      go_meet
      case rel => exact ⟨rfl, rfl⟩
  case rest =>
  obtain ⟨rfl, e1⟩ := hcut
  obtain rfl := e1.symm
  clear e1
  go_upto_region 5 with fail
  have hj := HJ.out
  obtain ⟨x0, lk, hx, hsn⟩ := H1.out.look e.c (by omega)
  have hx0 : x0 = x := by have := hx ⟨g0, by rw [H1.out.len]; exact g1⟩; rw [hj, Int.toNat_natCast, hxj] at this; cases this; rfl
  subst hx0
  obtain ⟨so, sc, hsl⟩ := svs_sl x0 hsn
  rw [hj] at lk
  have LK0 : (Instr.lookup 85 (.map (some mb)) (.int .i64 (j : Int)) false).run Tryz.prog W1.drew = .ok (.agg #[.int .i64 x0.cap, .slice so x0.n sc, .bool x0.cl]) W1.drew := by rw [lk _ (bdrew1 _)]; unfold chV; rw [hsl]
  have LK1 : ∀ o, (Instr.lookup 85 (.map (some mb)) (.int .i64 (j : Int)) false).run Tryz.prog (W1.alloc o).drew = .ok (.agg #[.int .i64 x0.cap, .slice so x0.n sc, .bool x0.cl]) (W1.alloc o).drew := fun o => by rw [lk _ (btr (below_alloc W1 o) (bdrew1 _))]; unfold chV; rw [hsl]
  have c2 : W1.drew.cell? ⟨R, 2, none⟩ = some (.map (some mb)) := cell_of H1.out.hR 2
  have c2' : ∀ o, (W1.alloc o).drew.cell? ⟨R, 2, none⟩ = some (.map (some mb)) := fun o => cellB3 c2 (below_alloc _ o)
  have v2 : W1.drew.cell? ⟨E, 2, none⟩ = some (.int .i64 (j : Int)) := by rw [← hj]; exact cell_of E1.out 2
  have v2' : ∀ o, (W1.alloc o).drew.cell? ⟨E, 2, none⟩ = some (.int .i64 (j : Int)) := fun o => cellB3 v2 (below_alloc _ o)
  have HSL := hide hsl
  clear lk hx hj hsl
  go_cut [9] (fun s9 wc => ∃ C, s9 = .pointer (some ⟨C, 0, none⟩) ∧ wc.heap[C]? = some (.cells #[.int .i64 x0.cap, .slice so x0.n sc, .bool x0.cl] 116 (0, 0)) ∧ W1.heap.size ≤ C ∧ Below W1.heap.size W1 wc)
  case first =>
    go_region
    all_goals
      go_wp2_with fail
      go_meet
      case rel => exact ⟨W1.heap.size, rfl, heap_below (heap_new W1 _) (bdrew1 _), Nat.le_refl _, btr (below_alloc _ _) (bdrew1 _)⟩
  case rest =>
  obtain ⟨C, rfl, ec, hCs, bl⟩ := hcut
  have hCN : N ≤ C := by have := B1.out.size; omega
  have H2 := hide (H1.out.below bl)
  have E2 := hide (heap_below E1.out bl)
  have C2 := hide ec
  have B2 := hide (B1.out.trans (Fb.of bl (by have := B1.out.size; omega)))
  have A2 := hide (HA.out.below (BW.out.trans (bl.mono (by have := BW.out.size; omega))))
  clear LK0 LK1 c2 c2' v2 v2' ec bl H1 E1 B1 HA BW
  rename World => W2
  obtain ⟨vr2, hcap2, hcl2⟩ := H2.out.ch j x0 d hxj hd
  have VR2 := hide vr2
  have HC2 := hide (And.intro hcap2 hcl2)
  have hN2 : N ≤ W2.heap.size := by have := B2.out.size; omega
  have c0 : W2.cell? ⟨R, 0, none⟩ = some (.slice (some ⟨b1, o1, none⟩) l.length c) := cell_of H2.out.hR 0
  have v4 : W2.cell? ⟨E, 4, none⟩ = some (.int .i64 e.v) := cell_of E2.out 4
  have y1 : W2.cell? ⟨C, 1, none⟩ = some (.slice so x0.n sc) := cell_of C2.out 1
  clear vr2 hcap2 hcl2 g0 g1
  go_upto_block 0 with fail
  go_cut [] (fun wc => O5 w wc N R mb (.slice (some ⟨b1, o1, none⟩) l.length c) vs D cs s e d (putP d e l[i + 1]?) j E C)
  case first =>
    rcases HSR.out with ⟨rfl, rfl, hk⟩ | ⟨rfl, rfl, hk, ho⟩
    · have PU : Hid (putP d e l[i + 1]? = d.vs ++ [e.v]) := by show _ = _; unfold putP; rw [if_pos hk]
      obtain ⟨x', w3, ap, vr3, hn3, hc3, hl3, g3, a3, b3, ke3⟩ := H2.out.app hN2 hxj hd (by omega) e.v
      have hs' : svs x' = .slice (some ⟨x'.b, x'.o, none⟩) x'.n x'.c := by unfold svs; rw [if_neg (by rw [hn3]; simp)]
      have C3 := hide (ke3 C _ _ C2.out (by decide))
      have E3 := hide (ke3 E _ _ E2.out (by decide))
      have AP : Hid ((Builtin.append_ #[27, 27] 27 #[.slice so x0.n sc, .slice (some ⟨W2.heap.size, 0, none⟩) 1 1]).run Tryz.prog (W2.alloc (.cells #[.int .i64 e.v] 3)) = .ok (.slice (some ⟨x'.b, x'.o, none⟩) x'.n x'.c) w3) := by
        show _ = _
        rw [← HSL.out, ← hs']; exact ap
      have X3 := hide (And.intro hc3 hl3)
      have G3 := hide g3
      have V3 := hide vr3
      have A3 := hide a3
      have B3 := hide (B2.out.trans b3)
      have HS := hide hs'
      have t1 : w3.cell? ⟨C, 1, none⟩ = some (.slice so x0.n sc) := cell_of C3.out 1
      have z1 := frozen_of C3.out 1
      clear hk ap vr3 hn3 hc3 hl3 g3 a3 b3 ke3 hs'
      go_wp2_with (at_builtin; refine wpL_app rfl _ _ 27 27 rfl _ _ rfl rfl _ _ AP.out ?_)
      go_meet
      case rel => rw [PU.out]; exact O5.put G3.out V3.out A3.out X3.out.1 X3.out.2 HC2.out.1 HC2.out.2 E3.out C3.out hCN hNw B3.out HS.out.symm
    · have nk : ¬ e.k = 3 := by omega
      have SAME : Hid (putP d e l[i + 1]? = d.vs → O5 w W2 N R mb (.slice (some ⟨b1, o1, none⟩) l.length c) vs D cs s e d (putP d e l[i + 1]?) j E C) := fun q => by
        rw [q]
        exact ⟨x0, H2.out, VR2.out, H2.out.ap hxj, HC2.out.1, HC2.out.2, E2.out, by rw [HSL.out]; exact C2.out, B2.out⟩
      clear ho
      rcases HSV.out with ⟨rfl, hm⟩ | ⟨rfl, hm⟩
      · cases hy : l[i + 1]? with
        | none =>
          have PU : Hid (putP d e l[i + 1]? = d.vs) := by show _ = _; unfold putP; rw [if_neg nk, if_pos hm, hy]
          have hlt := hnn hy
          have dlt : decide ((i : Int) + 1 < (l.length : Int)) = false := by simp; omega
          clear nk hm hy hk
          go_wp2_with fail
          go_meet
          case rel => exact SAME.out PU.out
        | some y =>
          have PU : Hid (putP d e l[i + 1]? = d.vs ++ [y.v]) := by show _ = _; unfold putP; rw [if_neg nk, if_pos hm, hy]
          have hlt := hnx y hy
          obtain ⟨-, -, -, -, y4, -, -, -⟩ := A2.out.read hy
          obtain ⟨k1, hk1⟩ : ∃ k1, i + 1 = k1 := ⟨_, rfl⟩
          have hkM1 : (k1 : Int) < (l.length : Int) := by omega
          have hk0 : (0 : Int) ≤ (k1 : Int) := by omega
          have wk0 : (i : Int) + 1 = (k1 : Int) := by omega
          have wk1 : IntKind.i64.wrap (k1 : Int) = (k1 : Int) := by rw [IntKind.wrap_i64]; omega
          have y4' : W2.drew.cell? ⟨b1, o1 + k1 * 8 + 4, none⟩ = some (.int .i64 y.v) := by rw [← hk1]; exact y4
          have c0' : W2.drew.cell? ⟨R, 0, none⟩ = some (.slice (some ⟨b1, o1, none⟩) l.length c) := c0
          have y1' : W2.drew.cell? ⟨C, 1, none⟩ = some (.slice so x0.n sc) := y1
          have y1'' : (W2.alloc (.cells #[.int .i64 y.v] 3)).drew.cell? ⟨C, 1, none⟩ = some (.slice so x0.n sc) := cellB3 y1' (below_alloc _ _)
          obtain ⟨x', w3, ap, vr3, hn3, hc3, hl3, g3, a3, b3, ke3⟩ := (H2.out.below (bdrew1 W2)).app hN2 hxj hd (by omega) y.v
          have hs' : svs x' = .slice (some ⟨x'.b, x'.o, none⟩) x'.n x'.c := by unfold svs; rw [if_neg (by rw [hn3]; simp)]
          have C3 := hide (ke3 C _ _ (show W2.drew.heap[C]? = _ from C2.out) (by decide))
          have E3 := hide (ke3 E _ _ (show W2.drew.heap[E]? = _ from E2.out) (by decide))
          have AP : (Builtin.append_ #[27, 27] 27 #[.slice so x0.n sc, .slice (some ⟨W2.heap.size, 0, none⟩) 1 1]).run Tryz.prog (W2.alloc (.cells #[.int .i64 y.v] 3)).drew = .ok (.slice (some ⟨x'.b, x'.o, none⟩) x'.n x'.c) w3 := by
            rw [← HSL.out, ← hs']; exact ap
          have X3 := hide (And.intro hc3 hl3)
          have G3 := hide g3
          have V3 := hide vr3
          have A3 := hide a3
          have B3 := hide ((B2.out.trans (Fb.of (bdrew1 W2) (by omega))).trans b3)
          have HS := hide hs'
          have t1 : w3.cell? ⟨C, 1, none⟩ = some (.slice so x0.n sc) := cell_of C3.out 1
          have z1 := frozen_of C3.out 1
          clear nk hm hy hk ap vr3 hn3 hc3 hl3 g3 a3 b3 ke3 hs' hk1 y4 hlt
          go_wp2_with fail
          go_region_law (refine step_append_run _ (by rfl) _ _ _ _ (by rfl) _ _ (by rfl) (by rfl) _ _ AP ?_)
          all_goals
            go_wp2_with fail
            go_meet
            case rel => rw [PU.out]; exact O5.put G3.out V3.out A3.out X3.out.1 X3.out.2 HC2.out.1 HC2.out.2 E3.out C3.out hCN hNw B3.out HS.out.symm
      · have PU : Hid (putP d e l[i + 1]? = d.vs) := by show _ = _; unfold putP; rw [if_neg nk, if_neg (by omega)]
        clear nk hm hk
        go_wp2_with fail
        go_meet
        case rel => exact SAME.out PU.out
  case rest =>
  -- the tail
  obtain ⟨x', g, vr, ap, hcap, hcl, eE, eC, bl⟩ := hcut
  obtain ⟨so', sc', hs'⟩ := svs_sl x' vr.sn
  rw [hs'] at eC
  have H3 := hide g
  have V3 := hide vr
  have A3 := hide ap
  have E3 := hide eE
  have C3 := hide eC
  have B3 := hide bl
  have HS3 := hide hs'
  have X3 := hide (And.intro hcap hcl)
  clear g vr ap eE eC bl hs' hcap hcl c0 v4 y1 H2 E2 C2 B2 A2 VR2 HC2 HSL hnx hnn
  rename World => W3
  obtain ⟨L, hL⟩ : ∃ L, putP d e l[i + 1]? = L := ⟨_, rfl⟩
  have hR := HR5.out
  unfold r5c at hR
  rw [hL] at hR V3
  clear hL HR5
  obtain ⟨pp, hpp⟩ : ∃ pp, (rcv || sv) = pp := ⟨_, rfl⟩
  have HP : Hid ((pp = true ∧ (e.k = 4 ∨ e.m ≠ -1)) ∨ (pp = false ∧ ¬ (e.k = 4 ∨ e.m ≠ -1))) := by
    rcases HSR.out with ⟨h1, h2, h3⟩ | ⟨h1, h2, h3, -⟩ <;> rcases HSV.out with ⟨h4, h5⟩ | ⟨h4, h5⟩ <;> rw [h2, h4] at hpp <;> subst hpp
    · exact .inl ⟨rfl, .inr h5⟩
    · exact .inr ⟨rfl, by omega⟩
    · exact .inl ⟨rfl, .inl h3⟩
    · exact .inl ⟨rfl, .inl h3⟩
  go_upto_region 10 with fail
  go_cut [81] (fun s81 wc => s81 = .bool pp ∧ wc = W3)
  case first =>
    clear HSR HP
    cases rcv
    · obtain rfl : sv = pp := by simpa using hpp
      go_wp2_with fail
      go_meet
      case rel => exact ⟨rfl, rfl⟩
    · obtain rfl : true = pp := by simpa using hpp
      go_wp2_with fail
      go_meet
      case rel => exact ⟨rfl, rfl⟩
  case rest =>
  obtain ⟨rfl, e1⟩ := hcut
  obtain rfl := e1.symm
  clear e1 hpp HSR
  have y1 : W3.cell? ⟨C, 1, none⟩ = some (.slice so' x'.n sc') := cell_of C3.out 1
  rcases HP.out with ⟨rfl, hyes⟩ | ⟨rfl, hno⟩
  case inr =>
    rw [if_neg hno] at hR
    rw [apply_ite (Option.map _)] at hR
    clear hno HP HSV
    go_upto_region 16 with fail
    clear y1
    have H4 := H3.out.below (bdrew1 W3)
    obtain ⟨w4, mu, g4, b4, gr4⟩ := H4.put (i := j) (by rw [H4.len]; omega) (by rw [H4.len]; omega) ⟨x'.nil, x'.b, x'.o, x'.n, x'.c, x'.cap, x'.cl⟩ ⟨d.cap, L, d.cl⟩ (V3.out.keep fun _ => rfl) X3.out.1 X3.out.2 A3.out.d A3.out.v A3.out.m
    rw [upl_set hjl] at g4
    have G4 := hide g4
    have B4 := hide ((B3.out.trans (Fb.of (bdrew1 W3) (by have := B3.out.size; omega))).trans b4)
    have MU : (Instr.mapUpdate 85 (.map (some mb)) (.int .i64 (j : Int)) (.agg #[.int .i64 x'.cap, Value.slice so' x'.n sc', .bool x'.cl])).run Tryz.prog W3.drew = .ok () w4 := by rw [← HS3.out]; exact mu
    have C4 := hide ((gr4.block C (heap_lt (show W3.drew.heap[C]? = _ from C3.out)) (fun q => by injection q with q; obtain ⟨es, ck, hb, -⟩ := H3.out.mp; rw [← q, C3.out] at hb; cases hb)).trans (show W3.drew.heap[C]? = _ from C3.out))
    have z2 : W3.drew.cell? ⟨R, 2, none⟩ = some (.map (some mb)) := cell_of H3.out.hR 2
    have u2 : W3.drew.cell? ⟨E, 2, none⟩ = some (.int .i64 (j : Int)) := by rw [← HJ.out]; exact cell_of E3.out 2
    have w0 : W3.drew.cell? ⟨C, 0, none⟩ = some (.int .i64 x'.cap) := cell_of C3.out 0
    have w1 : W3.drew.cell? ⟨C, 1, none⟩ = some (Value.slice so' x'.n sc') := cell_of C3.out 1
    have w2 : W3.drew.cell? ⟨C, 2, none⟩ = some (.bool x'.cl) := cell_of C3.out 2
    have q0 : w4.cell? ⟨C, 0, none⟩ = some (.int .i64 x'.cap) := cell_of C4.out 0
    have q1 : w4.cell? ⟨C, 1, none⟩ = some (Value.slice so' x'.n sc') := cell_of C4.out 1
    clear mu g4 b4 gr4 H4
    go_cut [] (fun wc => wc = w4)
    case first =>
      go_region
      all_goals
        go_wp2_with fail
        go_meet
        case rel => rfl
    case rest =>
    obtain rfl := hcut
    clear MU z2 u2 w0 w1 w2
    by_cases hle : (L.length : Int) ≤ d.cap
    · rw [if_pos hle] at hR
      have dle : decide ((x'.n : Int) ≤ x'.cap) = true := by rw [X3.out.1]; exact decide_eq_true (by have := V3.out.len; omega)
      clear hle
      go_wp2_with fail
      go_ret
      exact ChP.yes hR.symm G4.out B4.out
    · rw [if_neg hle] at hR
      have dle : decide ((x'.n : Int) ≤ x'.cap) = false := by rw [X3.out.1]; exact decide_eq_false (by have := V3.out.len; omega)
      clear hle
      go_wp2_with fail
      go_ret
      exact ChP.no hR.symm B4.out
  case inl =>
    rw [if_pos hyes] at hR
    clear hyes HP
    cases L with
    | nil =>
      have hn0 : x'.n = 0 := V3.out.len
      rw [hn0] at y1
      clear hn0
      simp only at hR
      rcases HSV.out with ⟨rfl, hm⟩ | ⟨rfl, hm⟩
      · rw [if_pos hm] at hR
        have hset : s.ch.set j d = s.ch := by
          apply List.ext_getElem?
          intro k
          by_cases hk : j = k
          · subst hk; rw [List.getElem?_set_self hjl, hd]
          · rw [List.getElem?_set_ne hk]
        simp only [Option.map_some, hset] at hR
        clear hm hset
        go_wp2_with fail
        go_ret
        exact ChP.yes hR.symm (SM.out _ _ _ _ H3.out) B3.out
      · rw [if_neg (by omega)] at hR
        simp only [Option.map_none] at hR
        clear hm
        go_wp2_with fail
        go_ret
        exact ChP.no hR.symm B3.out
    | cons v r =>
      simp only at hR
      obtain ⟨hnil, vt⟩ := V3.out.tail
      obtain ⟨h1, cur, h2, h3, h4, h5, h6⟩ := V3.out.row hnil
      have hsl := HS3.out
      unfold svs at hsl
      rw [if_neg (by rw [hnil]; simp)] at hsl
      injection hsl with a1 a2 a3
      subst a1 a3
      have hlen : x'.n = r.length + 1 := V3.out.len
      have r0 : W3.drew.cell? ⟨x'.b, x'.o, none⟩ = some (.int .i64 v) := (cell_of (show W3.drew.heap[x'.b]? = _ from h2) x'.o).trans (h6 0 v rfl)
      have y1' : W3.drew.cell? ⟨C, 1, none⟩ = some (.slice (some ⟨x'.b, x'.o, none⟩) x'.n x'.c) := y1
      have v4' : W3.drew.cell? ⟨E, 4, none⟩ = some (.int .i64 e.v) := cell_of E3.out 4
      have f1 := frozen_of C3.out 1
      have hn1 : (0 : Int) < (x'.n : Int) := by omega
      have hn2 : ((x'.n : Int) == 0) = false := by simp; omega
      have hn3 : (x'.n == 0) = false := by simp; omega
      have H6 := hide (And.intro hlen (And.intro h4 h5))
      have HV := hide vt
      clear HSV h1 h2 h3 h4 h5 h6 vt hlen a2
      go_upto_region 13 with fail
      go_cut [93] (fun s93 wc => s93 = .bool (v != e.v) ∧ wc = W3.drew)
      case first =>
        go_region
        all_goals
          go_wp2_with fail
          go_meet
          case rel => exact ⟨rfl, rfl⟩
      case rest =>
      obtain ⟨rfl, rfl⟩ := hcut
      by_cases hv : v = e.v
      case neg =>
        have dv : (v != e.v) = true := by simp [hv]
        rw [if_pos hv] at hR
        simp only [Option.map_none] at hR
        clear hv
        go_wp2_with fail
        go_ret
        exact ChP.no hR.symm (B3.out.trans (Fb.of (bdrew1 W3) (by have := B3.out.size; omega)))
      have dv : (v != e.v) = false := by simp [hv]
      rw [if_neg (by simp [hv])] at hR
      rw [apply_ite (Option.map _)] at hR
      clear hv
      by_cases hc1 : x'.c = 1
      · rw [hc1] at y1'
        have HS5 : Hid (svs (tl x') = Value.slice (some ⟨x'.b, x'.o, none⟩) (x'.n - 1) 0) := by show _ = _; unfold svs tl; simp [hnil, hc1]
        have K5 := (KB.refl C W3).setCell 1 (Value.slice (some ⟨x'.b, x'.o, none⟩) (x'.n - 1) 0)
        have H5 := hide ((H3.out.kb C3.out K5).below (bdrew1 _))
        have V5 := hide ((HV.out.noC C3.out K5).keep (w' := (W3.setCell ⟨C, 1, none⟩ (Value.slice (some ⟨x'.b, x'.o, none⟩) (x'.n - 1) 0)).drew) fun _ => rfl)
        have A5 : Hid (Ap mb vs cs j (tl x')) := ⟨A3.out.d, A3.out.v, A3.out.m⟩
        have E5 := hide (heap_below (ev_noC E3.out C3.out K5) (bdrew1 _))
        have C5 := hide (heap_below (Ba.heap_setCell_same (i := 1) C3.out (Value.slice (some ⟨x'.b, x'.o, none⟩) (x'.n - 1) 0)) (bdrew1 _))
        have b5 := B3.out.kb K5 hCN hNw C3.out (by decide)
        have B5 := hide (b5.trans (Fb.of (bdrew1 _) (by have := b5.size; omega)))
        clear K5 b5
        go_upto_region 16 with fail
        generalize (W3.setCell ⟨C, 1, none⟩ (Value.slice (some ⟨x'.b, x'.o, none⟩) (x'.n - 1) 0)).drew = W5 at *
        clear y1 y1' f1 r0 v4'
        have H4 := H5.out.below (bdrew1 W5)
        obtain ⟨w4, mu, g4, b4, gr4⟩ := H4.put (i := j) (by rw [H4.len]; omega) (by rw [H4.len]; omega) (tl x') ⟨d.cap, r, d.cl⟩ (V5.out.keep fun _ => rfl) X3.out.1 X3.out.2 A5.out.d A5.out.v A5.out.m
        rw [upl_set hjl] at g4
        have G4 := hide g4
        have B4 := hide ((B5.out.trans (Fb.of (bdrew1 W5) (by have := B5.out.size; omega))).trans b4)
        have MU : (Instr.mapUpdate 85 (.map (some mb)) (.int .i64 (j : Int)) (.agg #[.int .i64 x'.cap, Value.slice (some ⟨x'.b, x'.o, none⟩) (x'.n - 1) 0, .bool x'.cl])).run Tryz.prog W5.drew = .ok () w4 := by rw [← HS5.out]; exact mu
        have C4 := hide ((gr4.block C (heap_lt (show W5.drew.heap[C]? = _ from C5.out)) (fun q => by injection q with q; obtain ⟨es, ck, hb, -⟩ := H5.out.mp; rw [← q, C5.out] at hb; cases hb)).trans (show W5.drew.heap[C]? = _ from C5.out))
        have z2 : W5.drew.cell? ⟨R, 2, none⟩ = some (.map (some mb)) := cell_of H5.out.hR 2
        have u2 : W5.drew.cell? ⟨E, 2, none⟩ = some (.int .i64 (j : Int)) := by rw [← HJ.out]; exact cell_of E5.out 2
        have w0 : W5.drew.cell? ⟨C, 0, none⟩ = some (.int .i64 x'.cap) := cell_of C5.out 0
        have w1 : W5.drew.cell? ⟨C, 1, none⟩ = some (Value.slice (some ⟨x'.b, x'.o, none⟩) (x'.n - 1) 0) := cell_of C5.out 1
        have w2 : W5.drew.cell? ⟨C, 2, none⟩ = some (.bool x'.cl) := cell_of C5.out 2
        have q0 : w4.cell? ⟨C, 0, none⟩ = some (.int .i64 x'.cap) := cell_of C4.out 0
        have q1 : w4.cell? ⟨C, 1, none⟩ = some (Value.slice (some ⟨x'.b, x'.o, none⟩) (x'.n - 1) 0) := cell_of C4.out 1
        clear mu g4 b4 gr4 H4
        go_cut [] (fun wc => wc = w4)
        case first =>
          go_region
          all_goals
            go_wp2_with fail
            go_meet
            case rel => rfl
        case rest =>
        obtain rfl := hcut
        clear MU z2 u2 w0 w1 w2
        by_cases hle : (r.length : Int) ≤ d.cap
        · rw [if_pos hle] at hR
          have dle : decide (((x'.n - 1 : Nat) : Int) ≤ x'.cap) = true := by rw [X3.out.1]; exact decide_eq_true (by have := V5.out.len; unfold tl at this; simp only at this; omega)
          clear hle
          go_wp2_with fail
          go_ret
          exact ChP.yes hR.symm G4.out B4.out
        · rw [if_neg hle] at hR
          have dle : decide (((x'.n - 1 : Nat) : Int) ≤ x'.cap) = false := by rw [X3.out.1]; exact decide_eq_false (by have := V5.out.len; unfold tl at this; simp only at this; omega)
          clear hle
          go_wp2_with fail
          go_ret
          exact ChP.no hR.symm B4.out
      · skip
        have HS5 : Hid (svs (tl x') = Value.slice (some ⟨x'.b, x'.o + 1, none⟩) (x'.n - 1) (x'.c - 1)) := by show _ = _; unfold svs tl; simp [hnil, hc1]
        have K5 := (KB.refl C W3).setCell 1 (Value.slice (some ⟨x'.b, x'.o + 1, none⟩) (x'.n - 1) (x'.c - 1))
        have H5 := hide ((H3.out.kb C3.out K5).below (bdrew1 _))
        have V5 := hide ((HV.out.noC C3.out K5).keep (w' := (W3.setCell ⟨C, 1, none⟩ (Value.slice (some ⟨x'.b, x'.o + 1, none⟩) (x'.n - 1) (x'.c - 1))).drew) fun _ => rfl)
        have A5 : Hid (Ap mb vs cs j (tl x')) := ⟨A3.out.d, A3.out.v, A3.out.m⟩
        have E5 := hide (heap_below (ev_noC E3.out C3.out K5) (bdrew1 _))
        have C5 := hide (heap_below (Ba.heap_setCell_same (i := 1) C3.out (Value.slice (some ⟨x'.b, x'.o + 1, none⟩) (x'.n - 1) (x'.c - 1))) (bdrew1 _))
        have b5 := B3.out.kb K5 hCN hNw C3.out (by decide)
        have B5 := hide (b5.trans (Fb.of (bdrew1 _) (by have := b5.size; omega)))
        clear K5 b5
        go_upto_region 16 with fail
        generalize (W3.setCell ⟨C, 1, none⟩ (Value.slice (some ⟨x'.b, x'.o + 1, none⟩) (x'.n - 1) (x'.c - 1))).drew = W5 at *
        clear y1 y1' f1 r0 v4'
        have H4 := H5.out.below (bdrew1 W5)
        obtain ⟨w4, mu, g4, b4, gr4⟩ := H4.put (i := j) (by rw [H4.len]; omega) (by rw [H4.len]; omega) (tl x') ⟨d.cap, r, d.cl⟩ (V5.out.keep fun _ => rfl) X3.out.1 X3.out.2 A5.out.d A5.out.v A5.out.m
        rw [upl_set hjl] at g4
        have G4 := hide g4
        have B4 := hide ((B5.out.trans (Fb.of (bdrew1 W5) (by have := B5.out.size; omega))).trans b4)
        have MU : (Instr.mapUpdate 85 (.map (some mb)) (.int .i64 (j : Int)) (.agg #[.int .i64 x'.cap, Value.slice (some ⟨x'.b, x'.o + 1, none⟩) (x'.n - 1) (x'.c - 1), .bool x'.cl])).run Tryz.prog W5.drew = .ok () w4 := by rw [← HS5.out]; exact mu
        have C4 := hide ((gr4.block C (heap_lt (show W5.drew.heap[C]? = _ from C5.out)) (fun q => by injection q with q; obtain ⟨es, ck, hb, -⟩ := H5.out.mp; rw [← q, C5.out] at hb; cases hb)).trans (show W5.drew.heap[C]? = _ from C5.out))
        have z2 : W5.drew.cell? ⟨R, 2, none⟩ = some (.map (some mb)) := cell_of H5.out.hR 2
        have u2 : W5.drew.cell? ⟨E, 2, none⟩ = some (.int .i64 (j : Int)) := by rw [← HJ.out]; exact cell_of E5.out 2
        have w0 : W5.drew.cell? ⟨C, 0, none⟩ = some (.int .i64 x'.cap) := cell_of C5.out 0
        have w1 : W5.drew.cell? ⟨C, 1, none⟩ = some (Value.slice (some ⟨x'.b, x'.o + 1, none⟩) (x'.n - 1) (x'.c - 1)) := cell_of C5.out 1
        have w2 : W5.drew.cell? ⟨C, 2, none⟩ = some (.bool x'.cl) := cell_of C5.out 2
        have q0 : w4.cell? ⟨C, 0, none⟩ = some (.int .i64 x'.cap) := cell_of C4.out 0
        have q1 : w4.cell? ⟨C, 1, none⟩ = some (Value.slice (some ⟨x'.b, x'.o + 1, none⟩) (x'.n - 1) (x'.c - 1)) := cell_of C4.out 1
        clear mu g4 b4 gr4 H4
        go_cut [] (fun wc => wc = w4)
        case first =>
          go_region
          all_goals
            go_wp2_with fail
            go_meet
            case rel => rfl
        case rest =>
        obtain rfl := hcut
        clear MU z2 u2 w0 w1 w2
        by_cases hle : (r.length : Int) ≤ d.cap
        · rw [if_pos hle] at hR
          have dle : decide (((x'.n - 1 : Nat) : Int) ≤ x'.cap) = true := by rw [X3.out.1]; exact decide_eq_true (by have := V5.out.len; unfold tl at this; simp only at this; omega)
          clear hle
          go_wp2_with fail
          go_ret
          exact ChP.yes hR.symm G4.out B4.out
        · rw [if_neg hle] at hR
          have dle : decide (((x'.n - 1 : Nat) : Int) ≤ x'.cap) = false := by rw [X3.out.1]; exact decide_eq_false (by have := V5.out.len; unfold tl at this; simp only at this; omega)
          clear hle
          go_wp2_with fail
          go_ret
          exact ChP.no hR.symm B4.out
end Gu
end Go.Proofs.YtakbbhngcdccpaaGreat
