import Derived.Test.YtblfimobiibmjaaGreatZjAh5
import Derived.Deep.CutBlock
import Derived.Laws.CopyRow
import Derived.Laws.IdiomCopy
namespace Go.Proofs.YtblfimobiibmjaaGreat
open Go.ChangeShapes Go.WideShapes Go.ChangeAt Go.RowKit
namespace Gu
open En Ba
structure Ap (mb : Nat) (vs : Value) (cs : List Sv) (j : Nat) (x : Sv) : Prop where
 d : ∀ (k : Nat) z, cs[k]? = some z → k ≠ j → x.nil = false → z.nil = false → x.b ≠ z.b
 v : x.nil = false → vs.ownBlock ≠ some x.b
 m : x.nil = false → x.b ≠ mb
section
variable {w w' : World} {N R mb : Nat} {ev vs : Value} {D : DataW Unit} {cs : List Sv} {s : Gs}
theorem GR.ap (h : GR w N R mb ev vs D cs s) {j : Nat} {x : Sv} (hx : cs[j]? = some x) : Ap mb vs cs j x :=
 ⟨fun k z hz hne q1 q2 => h.dj j k x z hx hz (Ne.symm hne) q1 q2, fun q => h.dv j x hx q, fun q => h.noM.2 j x hx q⟩
theorem GR.app (h : GR w N R mb ev vs D cs s) (hNw : N ≤ w.heap.size) {j : Nat} {x : Sv} {d : Chn} (hx : cs[j]? = some x) (hd : s.ch[j]? = some d) (hl : d.vs.length ≤ 4000) (y : Int) :
 ∃ (x' : Sv) (w' : World), (Builtin.append_ #[67, 67] 67 #[svs x, .slice (some ⟨w.heap.size, 0, none⟩) 1 1]).run Tryz.prog (w.alloc (.cells #[.int .i64 y] 3)) = .ok (svs x') w' ∧ VR w' N x' (d.vs ++ [y]) ∧ x'.nil = false ∧ x'.cap = x.cap ∧ x'.cl = x.cl ∧ GR w' N R mb ev vs D cs s ∧ Ap mb vs cs j x' ∧ Fb N w w' ∧ (∀ (b : Nat) (cc : Array Value) (t : TypeId), w.heap[b]? = some (.cells cc t (0, 0)) → t ≠ 3 → w'.heap[b]? = some (.cells cc t (0, 0))) := by
 obtain ⟨vr, -, -⟩ := h.ch j x d hx hd
 obtain ⟨x', w', hr, hv, hn, hcap, hcl, hg, hat, hx'⟩ := vr.app hl hNw y
 have ap := h.ap hx
 have g1 : ∀ {b : Nat} {o : Obj}, w.heap[b]? = some o → (x.nil = false → b ≠ x.b) → w'.heap[b]? = some o := fun {b o} hb hne => by
  have hb' := heap_below hb (below_alloc w (.cells #[.int .i64 y] 3))
  refine (hg.block b (heap_lt hb') fun q => ?_).trans hb'
  cases hq : x.nil
  ·rw [hq] at q; simp at q; exact hne hq q
  ·rw [hq] at q; simp at q
 have hrow : x.nil = false → ∃ cur, w.heap[x.b]? = some (.cells cur 3 (0, 0)) := fun q => by
  obtain ⟨-, cur, hb, -⟩ := vr.row q
  exact ⟨cur, hb⟩
 have hG : GR w' N R mb ev vs D cs s := by
  refine ⟨h.hN, g1 h.hR (fun q e => h.noR.2.2 j x hx q e.symm), ⟨h.st.1, ?_⟩, ?_, h.mi, h.len, fun k z c hz hc => ?_, h.dj, h.dv⟩
  ·rcases h.st.2 with q | ⟨g, cap, cur, q1, q2, q3, q4⟩
   ·exact .inl q
   ·exact .inr ⟨g, cap, cur, q1, q2, g1 q3 (fun q e => ap.v q (by rw [q1, e]; rfl)), q4⟩
  ·obtain ⟨es, ck, hb, r⟩ := h.mp
   exact ⟨es, ck, g1 hb (fun q e => ap.m q e.symm), r⟩
  ·obtain ⟨v, r⟩ := h.ch k z c hz hc
   by_cases hk : k = j
   ·subst hk
    rw [hx] at hz; cases hz
    rw [hd] at hc; cases hc
    exact ⟨hx', r⟩
   ·refine ⟨v.keep fun q => ?_, r⟩
    obtain ⟨-, cur, hb, -⟩ := v.row q
    rw [g1 hb (fun q' e => ap.d k z hz hk q' q e.symm), hb]
 refine ⟨x', w', hr, hv, hn, hcap, hcl, hG, ?_, ?_, fun b cc t hb ht => g1 hb fun q e => ?_⟩
 ·rcases hat with ⟨q, e⟩ | e
  ·exact ⟨fun k z hz hne _ q2 => by rw [e]; exact ap.d k z hz hne q q2, fun _ => by rw [e]; exact ap.v q, fun _ => by rw [e]; exact ap.m q⟩
  ·refine ⟨fun k z hz hne _ q2 e2 => ?_, fun _ e2 => ?_, fun _ e2 => ?_⟩
   ·have hil : k < cs.length := (List.getElem?_eq_some_iff.1 hz).1
    obtain ⟨c, hc⟩ : ∃ c, s.ch[k]? = some c := ⟨_, List.getElem?_eq_getElem (by rw [← h.len]; exact hil)⟩
    obtain ⟨-, cur, hb, -⟩ := (h.ch k z c hz hc).1.row q2
    have := heap_lt hb
    omega
   ·have := (h.st.lt _ e2).2
    omega
   ·have := h.mp.lt
    omega
 ·have hsz := hg.size
  rw [World.size_alloc] at hsz
  refine ⟨⟨hg.os, hg.tape, hg.output, by omega, fun k hk => (hg.block k (by rw [World.size_alloc]; omega) fun q => ?_).trans ((below_alloc w _).block k (by omega))⟩, fun k cc hk => g1 hk fun q e => by obtain ⟨cur, hb'⟩ := hrow q; rw [e, hb'] at hk; cases hk⟩
  cases hq : x.nil
  ·rw [hq] at q; simp at q; obtain ⟨h1, -⟩ := vr.row hq; omega
  ·rw [hq] at q; simp at q
 ·obtain ⟨cur, hb'⟩ := hrow q
  rw [e, hb'] at hb
  cases hb
  exact ht rfl
def O5 (w wc : World) (N R mb : Nat) (ev vs : Value) (D : DataW Unit) (cs : List Sv) (s : Gs) (e : Ev) (d : Chn) (L : List Int) (j E C : Nat) : Prop :=
 ∃ x', GR wc N R mb ev vs D cs s ∧ VR wc N x' L ∧ Ap mb vs cs j x' ∧ x'.cap = d.cap ∧ x'.cl = d.cl ∧ wc.heap[E]? = some (.cells #[.int .i64 e.k, .int .i64 e.g, .int .i64 e.c, .int .i64 e.a, .int .i64 e.v, .int .i64 e.m, .bool e.s, .bool e.o] 50) ∧ wc.heap[C]? = some (.cells #[.int .i64 x'.cap, svs x', .bool x'.cl] 223 (0, 0)) ∧ Fb N w wc
theorem VR.noC {x : Sv} {L : List Int} {C : Nat} {cc : Array Value} (h : VR w N x L) (hC : w.heap[C]? = some (.cells cc 223 (0, 0))) (k : KB C w w') : VR w' N x L := h.keep fun q => by
 obtain ⟨-, cur, hb, -⟩ := h.row q
 rw [k.heap hb (fun e => by rw [e, hC] at hb; cases hb), hb]
theorem ev_noC {e : Ev} {E C : Nat} {cc : Array Value} (hE : w.heap[E]? = some (.cells #[.int .i64 e.k, .int .i64 e.g, .int .i64 e.c, .int .i64 e.a, .int .i64 e.v, .int .i64 e.m, .bool e.s, .bool e.o] 50)) (hC : w.heap[C]? = some (.cells cc 223 (0, 0))) (k : KB C w w') : w'.heap[E]? = some (.cells #[.int .i64 e.k, .int .i64 e.g, .int .i64 e.c, .int .i64 e.a, .int .i64 e.v, .int .i64 e.m, .bool e.s, .bool e.o] 50) :=
 k.heap hE (fun q => by rw [q, hC] at hE; cases hE)
theorem O5.put {w0 : World} {e : Ev} {d : Chn} {L : List Int} {j E C : Nat} {x' x : Sv} {old : Value} (g : GR w N R mb ev vs D cs s) (vr : VR w N x' L) (ap : Ap mb vs cs j x') (h1 : x'.cap = x.cap) (h2 : x'.cl = x.cl) (h3 : x.cap = d.cap) (h4 : x.cl = d.cl) (hE : w.heap[E]? = some (.cells #[.int .i64 e.k, .int .i64 e.g, .int .i64 e.c, .int .i64 e.a, .int .i64 e.v, .int .i64 e.m, .bool e.s, .bool e.o] 50)) (hC : w.heap[C]? = some (.cells #[.int .i64 x.cap, old, .bool x.cl] 223 (0, 0))) (hCN : N ≤ C) (hN : N ≤ w0.heap.size) (b : Fb N w0 w) {v : Value} (hv : v = svs x') :
 O5 w0 (w.setCell ⟨C, 1, none⟩ v) N R mb ev vs D cs s e d L j E C := by
 subst hv
 have K := (KB.refl C w).setCell 1 (svs x')
 refine ⟨x', g.kb hC K, vr.noC hC K, ap, h1.trans h3, h2.trans h4, ev_noC hE hC K, ?_, b.kb K hCN hN hC (by decide)⟩
 have := Ba.heap_setCell_same (i := 1) hC (svs x')
 rw [h1, h2]
 exact this
end
set_option maxRecDepth 100000 in
set_option maxHeartbeats 6400000 in
theorem ord_any {w : World} {N R c : Nat} {oa : Option Addr} {l : List Ev} {s : Gs} (h : GW w N R (.slice oa l.length c) s) (hA : EsAt w oa l) {i : Nat} {e : Ev} (hi : l[i]? = some e) (hc : -1 ≤ e.c ∧ e.c ≤ 511) (hin : moves e = true → 0 ≤ e.c ∧ e.c < s.ch.length) (hch : s.ch.length ≤ 3000) (hvs : ∀ (j : Nat) d, s.ch[j]? = some d → d.vs.length ≤ 3000) (hll : l.length ≤ 4000) (hNw : N ≤ w.heap.size) :
 Calls Tryz.prog 117 #[.pointer (some ⟨R, 0, none⟩), .int .i64 (i : Int)] w fun r w' => ChP (r5 s.ch e l[i + 1]?) N R (.slice oa l.length c) s w r w' := by
 obtain ⟨mb, vs, D, cs, h⟩ := h
 have hil : i < l.length := (List.getElem?_eq_some_iff.1 hi).1
 have hnx : ∀ x, l[i + 1]? = some x → i + 1 < l.length := fun x hx => (List.getElem?_eq_some_iff.1 hx).1
 have hnn : l[i + 1]? = none → l.length ≤ i + 1 := fun q => List.getElem?_eq_none_iff.1 q
 obtain ⟨b1, o1, rfl, -⟩ := hA i e hi
 obtain ⟨p0, p1, p2, p3, p4, p5, p6, p7⟩ := hA.read hi
 have hiM : (i : Int) < (l.length : Int) := by omega
 have HA := hide hA
 clear hA hi
 have H1 := hide (h.below (below_alloc w (.cells #[.int .i64 e.k, .int .i64 e.g, .int .i64 e.c, .int .i64 e.a, .int .i64 e.v, .int .i64 e.m, .bool e.s, .bool e.o] 50)))
 have E1 := hide (heap_new w (.cells #[.int .i64 e.k, .int .i64 e.g, .int .i64 e.c, .int .i64 e.a, .int .i64 e.v, .int .i64 e.m, .bool e.s, .bool e.o] 50))
 have B1 := hide (Fb.of (below_alloc w (.cells #[.int .i64 e.k, .int .i64 e.g, .int .i64 e.c, .int .i64 e.a, .int .i64 e.v, .int .i64 e.m, .bool e.s, .bool e.o] 50)) hNw)
 have BW := hide (below_alloc w (.cells #[.int .i64 e.k, .int .i64 e.g, .int .i64 e.c, .int .i64 e.a, .int .i64 e.v, .int .i64 e.m, .bool e.s, .bool e.o] 50))
 have c0 : w.cell? ⟨R, 0, none⟩ = some (.slice (some ⟨b1, o1, none⟩) l.length c) := cell_of h.hR 0
 have hRw : R < w.heap.size := heap_lt h.hR
 obtain ⟨R5, hR5⟩ : ∃ R5, r5 s.ch e l[i + 1]? = R5 := ⟨_, rfl⟩
 rw [hR5]
 unfold r5 moves at hR5
 unfold moves at hin
 clear h
 obtain ⟨E, hE⟩ : ∃ E, w.heap.size = E := ⟨_, rfl⟩
 have SM : Hid (∀ u D vs cs, GR u N R mb (.slice (some ⟨b1, o1, none⟩) l.length c) vs D cs s → GR u N R mb (.slice (some ⟨b1, o1, none⟩) l.length c) vs D cs { s with ch := s.ch }) := fun _ _ _ _ h => h
 by_cases hm : e.k = 3 ∨ (e.k = 4 ∧ e.o = true)
 case neg =>
  rw [if_neg (by simpa using hm)] at hR5
  have d3 : (e.k == 3) = false := by simp; exact fun q => hm (.inl q)
  have SAME := hide (SM.out _ _ _ _ H1.out)
  have v0 : (w.alloc (.cells #[.int .i64 e.k, .int .i64 e.g, .int .i64 e.c, .int .i64 e.a, .int .i64 e.v, .int .i64 e.m, .bool e.s, .bool e.o] 50)).cell? ⟨w.heap.size, 0, none⟩ = some (.int .i64 e.k) := cell_of E1.out 0
  have v5 : (w.alloc (.cells #[.int .i64 e.k, .int .i64 e.g, .int .i64 e.c, .int .i64 e.a, .int .i64 e.v, .int .i64 e.m, .bool e.s, .bool e.o] 50)).cell? ⟨w.heap.size, 5, none⟩ = some (.int .i64 e.m) := cell_of E1.out 5
  have v7 : (w.alloc (.cells #[.int .i64 e.k, .int .i64 e.g, .int .i64 e.c, .int .i64 e.a, .int .i64 e.v, .int .i64 e.m, .bool e.s, .bool e.o] 50)).cell? ⟨w.heap.size, 7, none⟩ = some (.bool e.o) := cell_of E1.out 7
  clear hE
  cases d4 : (e.k == 4)
  ·go_enter Tryz.func117, Tryz.ntmps117
   go_upto_region 2 with fail
   clear p0 p1 p2 p3 p4 p5 p6 p7 c0
   generalize w.alloc (.cells #[.int .i64 e.k, .int .i64 e.g, .int .i64 e.c, .int .i64 e.a, .int .i64 e.v, .int .i64 e.m, .bool e.s, .bool e.o] 50) = W1 at *
   go_quiet (fail)
   go_wp2_with fail
   go_ret
   exact ChP.yes hR5.symm (SAME.out.below (bdrew _ _)) (B1.out.trans (Fb.of (bdrew _ _) (by have := B1.out.size; omega)))
  ·have ho : e.o = false := by cases q : e.o; rfl; exact absurd (.inr ⟨by simpa using d4, q⟩) hm
   clear hm
   have HO := hide ho
   clear ho
   go_enter Tryz.func117, Tryz.ntmps117
   go_upto_region 2 with fail
   clear p0 p1 p2 p3 p4 p5 p6 p7 c0
   generalize w.alloc (.cells #[.int .i64 e.k, .int .i64 e.g, .int .i64 e.c, .int .i64 e.a, .int .i64 e.v, .int .i64 e.m, .bool e.s, .bool e.o] 50) = W1 at *
   rw [HO.out] at v7
   go_quiet (fail)
   go_wp2_with fail
   go_ret
   exact ChP.yes hR5.symm (SAME.out.below (bdrew _ _)) (B1.out.trans (Fb.of (bdrew _ _) (by have := B1.out.size; omega)))
 have hmv : (decide (e.k = 3) || (decide (e.k = 4) && e.o)) = true := by simpa using hm
 rw [if_pos hmv] at hR5
 obtain ⟨g0, g1⟩ := hin hmv
 obtain ⟨j, hj⟩ : ∃ j : Nat, e.c = (j : Int) := ⟨e.c.toNat, by omega⟩
 have hjl : j < s.ch.length := by omega
 obtain ⟨d, hd⟩ : ∃ d, s.ch[j]? = some d := ⟨_, List.getElem?_eq_getElem hjl⟩
 have hgd : s.ch.getD e.c.toNat chz = d := by rw [hj, Int.toNat_natCast, List.getD_eq_getElem?_getD, hd]; rfl
 rw [hgd, hj, Int.toNat_natCast] at hR5
 obtain ⟨x, hxj⟩ : ∃ x, cs[j]? = some x := ⟨_, List.getElem?_eq_getElem (by rw [H1.out.len]; exact hjl)⟩
 have hnb : d.vs.length ≤ 3000 := hvs j d hd
 have HR5 := hide hR5
 obtain ⟨sv, hsv⟩ : ∃ b, (e.m != -1) = b := ⟨_, rfl⟩
 have HSV : Hid ((sv = true ∧ e.m ≠ -1) ∨ (sv = false ∧ e.m = -1)) := by
  cases sv
  ·exact .inr ⟨rfl, by simpa using hsv⟩
  ·exact .inl ⟨rfl, by simpa using hsv⟩
 obtain ⟨snt, rcv, HSR⟩ : ∃ snt rcv, Hid ((snt = true ∧ rcv = false ∧ e.k = 3) ∨ (snt = false ∧ rcv = true ∧ e.k = 4 ∧ e.o = true)) := by
  rcases hm with q | q
  ·exact ⟨true, false, .inl ⟨rfl, rfl, q⟩⟩
  ·exact ⟨false, true, .inr ⟨rfl, rfl, q⟩⟩
 have HJ := hide hj
 clear hmv hm hR5 hgd hin hvs hj
 go_enter Tryz.func117, Tryz.ntmps117
 go_upto_region 2 with fail
 rw [hE] at E1 hRw
 clear p0 p1 p2 p3 p4 p5 p6 p7 c0
 have HE := hide hE
 clear hE
 generalize w.alloc (.cells #[.int .i64 e.k, .int .i64 e.g, .int .i64 e.c, .int .i64 e.a, .int .i64 e.v, .int .i64 e.m, .bool e.s, .bool e.o] 50) = W1 at *
 have v0 : W1.cell? ⟨E, 0, none⟩ = some (.int .i64 e.k) := cell_of E1.out 0
 have v5 : W1.cell? ⟨E, 5, none⟩ = some (.int .i64 e.m) := cell_of E1.out 5
 have v7 : W1.cell? ⟨E, 7, none⟩ = some (.bool e.o) := cell_of E1.out 7
 go_cut [6, 7, 8] (fun s6 s7 s8 wc => s6 = .bool snt ∧ s7 = .bool rcv ∧ s8 = .bool sv ∧ ∃ q, wc = W1.drewN q)
 case first =>
  rcases HSR.out with ⟨rfl, rfl, hk⟩ | ⟨rfl, rfl, hk, ho⟩
  ·have d3 : (e.k == 3) = true := by simp [hk]
   have d4 : (e.k == 4) = false := by simp [hk]
   clear hk
   go_quiet (fail)
   go_wp2_with fail
   go_meet
   case rel => exact ⟨rfl, rfl, rfl, _, rfl⟩
  ·have d3 : (e.k == 3) = false := by simp [hk]
   have d4 : (e.k == 4) = true := by simp [hk]
   rw [ho] at v7
   clear hk ho
   go_quiet (fail)
   go_wp2_with fail
   go_meet
   case rel => exact ⟨rfl, rfl, rfl, _, rfl⟩
 case rest =>
 obtain ⟨rfl, rfl, rfl, q1, e1⟩ := hcut
 have K1 : Below W1.heap.size W1 wc := by rw [e1]; exact bdrew _ _
 have G1 := hide (H1.out.below K1)
 have F1 := hide (heap_below E1.out K1)
 have B0 := hide (B1.out.trans (Fb.of K1 (by have := B1.out.size; omega)))
 have BV := hide (BW.out.trans (K1.mono (by have := BW.out.size; omega)))
 clear e1 v0 v5 v7 hsv H1 E1 B1 BW K1
 rename World => W1
 have H1 := G1
 have E1 := F1
 have B1 := B0
 have BW := BV
 clear G1 F1 B0 BV
 go_upto_region 3 with fail
 go_cut [35] (fun s35 wc => s35 = .bool false ∧ wc = W1)
 case first =>
  rcases HSR.out with ⟨rfl, rfl, hk⟩ | ⟨rfl, rfl, hk, ho⟩
  ·clear hk
   go_wp2_with fail
   go_meet
   case rel => exact ⟨rfl, rfl⟩
  ·clear hk ho
   go_wp2_with fail
   go_meet
   case rel => exact ⟨rfl, rfl⟩
 case rest =>
 obtain ⟨rfl, e1⟩ := hcut
 obtain rfl := e1.symm
 clear e1
 go_upto_region 5 with fail
 have hj := HJ.out
 obtain ⟨x0, lk, hx, hsn⟩ := H1.out.look e.c (by omega)
 have hx0 : x0 = x := by have := hx ⟨g0, by rw [H1.out.len]; exact g1⟩; rw [hj, Int.toNat_natCast, hxj] at this; cases this; rfl
 subst hx0
 obtain ⟨so, sc, hsl⟩ := svs_sl x0 hsn
 rw [hj] at lk
 have LK0 : (Instr.lookup 171 (.map (some mb)) (.int .i64 (j : Int)) false).run Tryz.prog W1.drew = .ok (.agg #[.int .i64 x0.cap, .slice so x0.n sc, .bool x0.cl]) W1.drew := by rw [lk _ (bdrew1 _)]; unfold chV; rw [hsl]
 have LK1 : ∀ o, (Instr.lookup 171 (.map (some mb)) (.int .i64 (j : Int)) false).run Tryz.prog (W1.alloc o).drew = .ok (.agg #[.int .i64 x0.cap, .slice so x0.n sc, .bool x0.cl]) (W1.alloc o).drew := fun o => by rw [lk _ (btr (below_alloc W1 o) (bdrew1 _))]; unfold chV; rw [hsl]
 have c2 : W1.drew.cell? ⟨R, 2, none⟩ = some (.map (some mb)) := cell_of H1.out.hR 2
 have c2' : ∀ o, (W1.alloc o).drew.cell? ⟨R, 2, none⟩ = some (.map (some mb)) := fun o => cellB3 c2 (below_alloc _ o)
 have v2 : W1.drew.cell? ⟨E, 2, none⟩ = some (.int .i64 (j : Int)) := by rw [← hj]; exact cell_of E1.out 2
 have v2' : ∀ o, (W1.alloc o).drew.cell? ⟨E, 2, none⟩ = some (.int .i64 (j : Int)) := fun o => cellB3 v2 (below_alloc _ o)
 have HSL := hide hsl
 clear lk hx hj hsl
 go_cut [9] (fun s9 wc => ∃ C, s9 = .pointer (some ⟨C, 0, none⟩) ∧ wc.heap[C]? = some (.cells #[.int .i64 x0.cap, .slice so x0.n sc, .bool x0.cl] 223 (0, 0)) ∧ W1.heap.size ≤ C ∧ Below W1.heap.size W1 wc)
 case first =>
  go_region
  all_goals
   go_wp2_with fail
   go_meet
   case rel => exact ⟨W1.heap.size, rfl, heap_below (heap_new W1 _) (bdrew1 _), Nat.le_refl _, btr (below_alloc _ _) (bdrew1 _)⟩
 case rest =>
 obtain ⟨C, rfl, ec, hCs, bl⟩ := hcut
 have hCN : N ≤ C := by have := B1.out.size; omega
 have H2 := hide (H1.out.below bl)
 have E2 := hide (heap_below E1.out bl)
 have C2 := hide ec
 have B2 := hide (B1.out.trans (Fb.of bl (by have := B1.out.size; omega)))
 have A2 := hide (HA.out.below (BW.out.trans (bl.mono (by have := BW.out.size; omega))))
 clear LK0 LK1 c2 c2' v2 v2' ec bl H1 E1 B1 HA BW
 rename World => W2
 obtain ⟨vr2, hcap2, hcl2⟩ := H2.out.ch j x0 d hxj hd
 have VR2 := hide vr2
 have HC2 := hide (And.intro hcap2 hcl2)
 have hN2 : N ≤ W2.heap.size := by have := B2.out.size; omega
 have c0 : W2.cell? ⟨R, 0, none⟩ = some (.slice (some ⟨b1, o1, none⟩) l.length c) := cell_of H2.out.hR 0
 have v4 : W2.cell? ⟨E, 4, none⟩ = some (.int .i64 e.v) := cell_of E2.out 4
 have y1 : W2.cell? ⟨C, 1, none⟩ = some (.slice so x0.n sc) := cell_of C2.out 1
 clear vr2 hcap2 hcl2 g0 g1
 go_upto_block 0 with fail
 go_cut [] (fun wc => O5 w wc N R mb (.slice (some ⟨b1, o1, none⟩) l.length c) vs D cs s e d (putP d e l[i + 1]?) j E C)
 case first =>
  rcases HSR.out with ⟨rfl, rfl, hk⟩ | ⟨rfl, rfl, hk, ho⟩
  ·have PU : Hid (putP d e l[i + 1]? = d.vs ++ [e.v]) := by show _ = _; unfold putP; rw [if_pos hk]
   obtain ⟨x', w3, ap, vr3, hn3, hc3, hl3, g3, a3, b3, ke3⟩ := H2.out.app hN2 hxj hd (by omega) e.v
   have hs' : svs x' = .slice (some ⟨x'.b, x'.o, none⟩) x'.n x'.c := by unfold svs; rw [if_neg (by rw [hn3]; simp)]
   have C3 := hide (ke3 C _ _ C2.out (by decide))
   have E3 := hide (ke3 E _ _ E2.out (by decide))
   have AP : Hid ((Builtin.append_ #[67, 67] 67 #[.slice so x0.n sc, .slice (some ⟨W2.heap.size, 0, none⟩) 1 1]).run Tryz.prog (W2.alloc (.cells #[.int .i64 e.v] 3)) = .ok (.slice (some ⟨x'.b, x'.o, none⟩) x'.n x'.c) w3) := by
    show _ = _
    rw [← HSL.out, ← hs']; exact ap
   have X3 := hide (And.intro hc3 hl3)
   have G3 := hide g3
   have V3 := hide vr3
   have A3 := hide a3
   have B3 := hide (B2.out.trans b3)
   have HS := hide hs'
   have t1 : w3.cell? ⟨C, 1, none⟩ = some (.slice so x0.n sc) := cell_of C3.out 1
   have z1 := frozen_of C3.out 1
   clear hk ap vr3 hn3 hc3 hl3 g3 a3 b3 ke3 hs'
   go_wp2_with (at_builtin; refine wpL_app rfl _ _ 67 67 rfl _ _ rfl rfl _ _ AP.out ?_)
   go_meet
   case rel => rw [PU.out]; exact O5.put G3.out V3.out A3.out X3.out.1 X3.out.2 HC2.out.1 HC2.out.2 E3.out C3.out hCN hNw B3.out HS.out.symm
  ·have nk : ¬ e.k = 3 := by omega
   have SAME : Hid (putP d e l[i + 1]? = d.vs → O5 w W2 N R mb (.slice (some ⟨b1, o1, none⟩) l.length c) vs D cs s e d (putP d e l[i + 1]?) j E C) := fun q => by
    rw [q]
    exact ⟨x0, H2.out, VR2.out, H2.out.ap hxj, HC2.out.1, HC2.out.2, E2.out, by rw [HSL.out]; exact C2.out, B2.out⟩
   clear ho
   rcases HSV.out with ⟨rfl, hm⟩ | ⟨rfl, hm⟩
   ·cases hy : l[i + 1]? with
    | none =>
      have PU : Hid (putP d e l[i + 1]? = d.vs) := by show _ = _; unfold putP; rw [if_neg nk, if_pos hm, hy]
      have hlt := hnn hy
      have dlt : decide ((i : Int) + 1 < (l.length : Int)) = false := by simp; omega
      clear nk hm hy hk
      go_wp2_with fail
      go_meet
      case rel => exact SAME.out PU.out
    | some y =>
      have PU : Hid (putP d e l[i + 1]? = d.vs ++ [y.v]) := by show _ = _; unfold putP; rw [if_neg nk, if_pos hm, hy]
      have hlt := hnx y hy
      obtain ⟨-, -, -, -, y4, -, -, -⟩ := A2.out.read hy
      obtain ⟨k1, hk1⟩ : ∃ k1, i + 1 = k1 := ⟨_, rfl⟩
      have hkM1 : (k1 : Int) < (l.length : Int) := by omega
      have hk0 : (0 : Int) ≤ (k1 : Int) := by omega
      have wk0 : (i : Int) + 1 = (k1 : Int) := by omega
      have wk1 : IntKind.i64.wrap (k1 : Int) = (k1 : Int) := by rw [IntKind.wrap_i64]; omega
      have y4' : W2.drew.cell? ⟨b1, o1 + k1 * 8 + 4, none⟩ = some (.int .i64 y.v) := by rw [← hk1]; exact y4
      have c0' : W2.drew.cell? ⟨R, 0, none⟩ = some (.slice (some ⟨b1, o1, none⟩) l.length c) := c0
      have y1' : W2.drew.cell? ⟨C, 1, none⟩ = some (.slice so x0.n sc) := y1
      have y1'' : (W2.alloc (.cells #[.int .i64 y.v] 3)).drew.cell? ⟨C, 1, none⟩ = some (.slice so x0.n sc) := cellB3 y1' (below_alloc _ _)
      obtain ⟨x', w3, ap, vr3, hn3, hc3, hl3, g3, a3, b3, ke3⟩ := (H2.out.below (bdrew1 W2)).app hN2 hxj hd (by omega) y.v
      have hs' : svs x' = .slice (some ⟨x'.b, x'.o, none⟩) x'.n x'.c := by unfold svs; rw [if_neg (by rw [hn3]; simp)]
      have C3 := hide (ke3 C _ _ (show W2.drew.heap[C]? = _ from C2.out) (by decide))
      have E3 := hide (ke3 E _ _ (show W2.drew.heap[E]? = _ from E2.out) (by decide))
      have AP : (Builtin.append_ #[67, 67] 67 #[.slice so x0.n sc, .slice (some ⟨W2.heap.size, 0, none⟩) 1 1]).run Tryz.prog (W2.alloc (.cells #[.int .i64 y.v] 3)).drew = .ok (.slice (some ⟨x'.b, x'.o, none⟩) x'.n x'.c) w3 := by
       rw [← HSL.out, ← hs']; exact ap
      have X3 := hide (And.intro hc3 hl3)
      have G3 := hide g3
      have V3 := hide vr3
      have A3 := hide a3
      have B3 := hide ((B2.out.trans (Fb.of (bdrew1 W2) (by omega))).trans b3)
      have HS := hide hs'
      have t1 : w3.cell? ⟨C, 1, none⟩ = some (.slice so x0.n sc) := cell_of C3.out 1
      have z1 := frozen_of C3.out 1
      clear nk hm hy hk ap vr3 hn3 hc3 hl3 g3 a3 b3 ke3 hs' hk1 y4 hlt
      go_wp2_with fail
      go_region_law (refine step_append_run _ (by rfl) _ _ _ _ (by rfl) _ _ (by rfl) (by rfl) _ _ AP ?_)
      all_goals
       go_wp2_with fail
       go_meet
       case rel => rw [PU.out]; exact O5.put G3.out V3.out A3.out X3.out.1 X3.out.2 HC2.out.1 HC2.out.2 E3.out C3.out hCN hNw B3.out HS.out.symm
   ·have PU : Hid (putP d e l[i + 1]? = d.vs) := by show _ = _; unfold putP; rw [if_neg nk, if_neg (by omega)]
    clear nk hm hk
    go_wp2_with fail
    go_meet
    case rel => exact SAME.out PU.out
 case rest =>
 obtain ⟨x', g, vr, ap, hcap, hcl, eE, eC, bl⟩ := hcut
 obtain ⟨so', sc', hs'⟩ := svs_sl x' vr.sn
 rw [hs'] at eC
 have H3 := hide g
 have V3 := hide vr
 have A3 := hide ap
 have E3 := hide eE
 have C3 := hide eC
 have B3 := hide bl
 have HS3 := hide hs'
 have X3 := hide (And.intro hcap hcl)
 clear g vr ap eE eC bl hs' hcap hcl c0 v4 y1 H2 E2 C2 B2 A2 VR2 HC2 HSL hnx hnn
 rename World => W3
 obtain ⟨L, hL⟩ : ∃ L, putP d e l[i + 1]? = L := ⟨_, rfl⟩
 have hR := HR5.out
 unfold r5c at hR
 rw [hL] at hR V3
 clear hL HR5
 obtain ⟨pp, hpp⟩ : ∃ pp, (rcv || sv) = pp := ⟨_, rfl⟩
 have HP : Hid ((pp = true ∧ (e.k = 4 ∨ e.m ≠ -1)) ∨ (pp = false ∧ ¬ (e.k = 4 ∨ e.m ≠ -1))) := by
  rcases HSR.out with ⟨h1, h2, h3⟩ | ⟨h1, h2, h3, -⟩ <;> rcases HSV.out with ⟨h4, h5⟩ | ⟨h4, h5⟩ <;> rw [h2, h4] at hpp <;> subst hpp
  ·exact .inl ⟨rfl, .inr h5⟩
  ·exact .inr ⟨rfl, by omega⟩
  ·exact .inl ⟨rfl, .inl h3⟩
  ·exact .inl ⟨rfl, .inl h3⟩
 go_upto_region 10 with fail
 go_cut [81] (fun s81 wc => s81 = .bool pp ∧ wc = W3)
 case first =>
  clear HSR HP
  cases rcv
  ·obtain rfl : sv = pp := by simpa using hpp
   go_wp2_with fail
   go_meet
   case rel => exact ⟨rfl, rfl⟩
  ·obtain rfl : true = pp := by simpa using hpp
   go_wp2_with fail
   go_meet
   case rel => exact ⟨rfl, rfl⟩
 case rest =>
 obtain ⟨rfl, e1⟩ := hcut
 obtain rfl := e1.symm
 clear e1 hpp HSR
 have y1 : W3.cell? ⟨C, 1, none⟩ = some (.slice so' x'.n sc') := cell_of C3.out 1
 rcases HP.out with ⟨rfl, hyes⟩ | ⟨rfl, hno⟩
 case inr =>
  rw [if_neg hno] at hR
  rw [apply_ite (Option.map _)] at hR
  clear hno HP HSV
  go_upto_region 16 with fail
  clear y1
  have H4 := H3.out.below (bdrew1 W3)
  obtain ⟨w4, mu, g4, b4, gr4⟩ := H4.put (i := j) (by rw [H4.len]; omega) (by rw [H4.len]; omega) ⟨x'.nil, x'.b, x'.o, x'.n, x'.c, x'.cap, x'.cl⟩ ⟨d.cap, L, d.cl⟩ (V3.out.keep fun _ => rfl) X3.out.1 X3.out.2 A3.out.d A3.out.v A3.out.m
  rw [upl_set hjl] at g4
  have G4 := hide g4
  have B4 := hide ((B3.out.trans (Fb.of (bdrew1 W3) (by have := B3.out.size; omega))).trans b4)
  have MU : (Instr.mapUpdate 171 (.map (some mb)) (.int .i64 (j : Int)) (.agg #[.int .i64 x'.cap, Value.slice so' x'.n sc', .bool x'.cl])).run Tryz.prog W3.drew = .ok () w4 := by rw [← HS3.out]; exact mu
  have C4 := hide ((gr4.block C (heap_lt (show W3.drew.heap[C]? = _ from C3.out)) (fun q => by injection q with q; obtain ⟨es, ck, hb, -⟩ := H3.out.mp; rw [← q, C3.out] at hb; cases hb)).trans (show W3.drew.heap[C]? = _ from C3.out))
  have z2 : W3.drew.cell? ⟨R, 2, none⟩ = some (.map (some mb)) := cell_of H3.out.hR 2
  have u2 : W3.drew.cell? ⟨E, 2, none⟩ = some (.int .i64 (j : Int)) := by rw [← HJ.out]; exact cell_of E3.out 2
  have w0 : W3.drew.cell? ⟨C, 0, none⟩ = some (.int .i64 x'.cap) := cell_of C3.out 0
  have w1 : W3.drew.cell? ⟨C, 1, none⟩ = some (Value.slice so' x'.n sc') := cell_of C3.out 1
  have w2 : W3.drew.cell? ⟨C, 2, none⟩ = some (.bool x'.cl) := cell_of C3.out 2
  have q0 : w4.cell? ⟨C, 0, none⟩ = some (.int .i64 x'.cap) := cell_of C4.out 0
  have q1 : w4.cell? ⟨C, 1, none⟩ = some (Value.slice so' x'.n sc') := cell_of C4.out 1
  clear mu g4 b4 gr4 H4
  go_cut [] (fun wc => wc = w4)
  case first =>
   go_region
   all_goals
    go_wp2_with fail
    go_meet
    case rel => rfl
  case rest =>
  obtain rfl := hcut
  clear MU z2 u2 w0 w1 w2
  by_cases hle : (L.length : Int) ≤ d.cap
  ·rw [if_pos hle] at hR
   have dle : decide ((x'.n : Int) ≤ x'.cap) = true := by rw [X3.out.1]; exact decide_eq_true (by have := V3.out.len; omega)
   clear hle
   go_wp2_with fail
   go_ret
   exact ChP.yes hR.symm G4.out B4.out
  ·rw [if_neg hle] at hR
   have dle : decide ((x'.n : Int) ≤ x'.cap) = false := by rw [X3.out.1]; exact decide_eq_false (by have := V3.out.len; omega)
   clear hle
   go_wp2_with fail
   go_ret
   exact ChP.no hR.symm B4.out
 case inl =>
  rw [if_pos hyes] at hR
  clear hyes HP
  cases L with
  | nil =>
    have hn0 : x'.n = 0 := V3.out.len
    rw [hn0] at y1
    clear hn0
    simp only at hR
    rcases HSV.out with ⟨rfl, hm⟩ | ⟨rfl, hm⟩
    ·rw [if_pos hm] at hR
     have hset : s.ch.set j d = s.ch := by
      apply List.ext_getElem?
      intro k
      by_cases hk : j = k
      ·subst hk; rw [List.getElem?_set_self hjl, hd]
      ·rw [List.getElem?_set_ne hk]
     simp only [Option.map_some, hset] at hR
     clear hm hset
     go_wp2_with fail
     go_ret
     exact ChP.yes hR.symm (SM.out _ _ _ _ H3.out) B3.out
    ·rw [if_neg (by omega)] at hR
     simp only [Option.map_none] at hR
     clear hm
     go_wp2_with fail
     go_ret
     exact ChP.no hR.symm B3.out
  | cons v r =>
    simp only at hR
    obtain ⟨hnil, vt⟩ := V3.out.tail
    obtain ⟨h1, cur, h2, h3, h4, h5, h6⟩ := V3.out.row hnil
    have hsl := HS3.out
    unfold svs at hsl
    rw [if_neg (by rw [hnil]; simp)] at hsl
    injection hsl with a1 a2 a3
    subst a1 a3
    have hlen : x'.n = r.length + 1 := V3.out.len
    have r0 : W3.drew.cell? ⟨x'.b, x'.o, none⟩ = some (.int .i64 v) := (cell_of (show W3.drew.heap[x'.b]? = _ from h2) x'.o).trans (h6 0 v rfl)
    have y1' : W3.drew.cell? ⟨C, 1, none⟩ = some (.slice (some ⟨x'.b, x'.o, none⟩) x'.n x'.c) := y1
    have v4' : W3.drew.cell? ⟨E, 4, none⟩ = some (.int .i64 e.v) := cell_of E3.out 4
    have f1 := frozen_of C3.out 1
    have hn1 : (0 : Int) < (x'.n : Int) := by omega
    have hn2 : ((x'.n : Int) == 0) = false := by simp; omega
    have hn3 : (x'.n == 0) = false := by simp; omega
    have H6 := hide (And.intro hlen (And.intro h4 h5))
    have HV := hide vt
    clear HSV h1 h2 h3 h4 h5 h6 vt hlen a2
    go_upto_region 13 with fail
    go_cut [93] (fun s93 wc => s93 = .bool (v != e.v) ∧ wc = W3.drew)
    case first =>
     go_region
     all_goals
      go_wp2_with fail
      go_meet
      case rel => exact ⟨rfl, rfl⟩
    case rest =>
    obtain ⟨rfl, rfl⟩ := hcut
    by_cases hv : v = e.v
    case neg =>
     have dv : (v != e.v) = true := by simp [hv]
     rw [if_pos hv] at hR
     simp only [Option.map_none] at hR
     clear hv
     go_wp2_with fail
     go_ret
     exact ChP.no hR.symm (B3.out.trans (Fb.of (bdrew1 W3) (by have := B3.out.size; omega)))
    have dv : (v != e.v) = false := by simp [hv]
    rw [if_neg (by simp [hv])] at hR
    rw [apply_ite (Option.map _)] at hR
    clear hv
    by_cases hc1 : x'.c = 1
    ·rw [hc1] at y1'
     have HS5 : Hid (svs (tl x') = Value.slice (some ⟨x'.b, x'.o, none⟩) (x'.n - 1) 0) := by show _ = _; unfold svs tl; simp [hnil, hc1]
     have K5 := (KB.refl C W3).setCell 1 (Value.slice (some ⟨x'.b, x'.o, none⟩) (x'.n - 1) 0)
     have H5 := hide ((H3.out.kb C3.out K5).below (bdrew1 _))
     have V5 := hide ((HV.out.noC C3.out K5).keep (w' := (W3.setCell ⟨C, 1, none⟩ (Value.slice (some ⟨x'.b, x'.o, none⟩) (x'.n - 1) 0)).drew) fun _ => rfl)
     have A5 : Hid (Ap mb vs cs j (tl x')) := ⟨A3.out.d, A3.out.v, A3.out.m⟩
     have E5 := hide (heap_below (ev_noC E3.out C3.out K5) (bdrew1 _))
     have C5 := hide (heap_below (Ba.heap_setCell_same (i := 1) C3.out (Value.slice (some ⟨x'.b, x'.o, none⟩) (x'.n - 1) 0)) (bdrew1 _))
     have b5 := B3.out.kb K5 hCN hNw C3.out (by decide)
     have B5 := hide (b5.trans (Fb.of (bdrew1 _) (by have := b5.size; omega)))
     clear K5 b5
     go_upto_region 16 with fail
     generalize (W3.setCell ⟨C, 1, none⟩ (Value.slice (some ⟨x'.b, x'.o, none⟩) (x'.n - 1) 0)).drew = W5 at *
     clear y1 y1' f1 r0 v4'
     have H4 := H5.out.below (bdrew1 W5)
     obtain ⟨w4, mu, g4, b4, gr4⟩ := H4.put (i := j) (by rw [H4.len]; omega) (by rw [H4.len]; omega) (tl x') ⟨d.cap, r, d.cl⟩ (V5.out.keep fun _ => rfl) X3.out.1 X3.out.2 A5.out.d A5.out.v A5.out.m
     rw [upl_set hjl] at g4
     have G4 := hide g4
     have B4 := hide ((B5.out.trans (Fb.of (bdrew1 W5) (by have := B5.out.size; omega))).trans b4)
     have MU : (Instr.mapUpdate 171 (.map (some mb)) (.int .i64 (j : Int)) (.agg #[.int .i64 x'.cap, Value.slice (some ⟨x'.b, x'.o, none⟩) (x'.n - 1) 0, .bool x'.cl])).run Tryz.prog W5.drew = .ok () w4 := by rw [← HS5.out]; exact mu
     have C4 := hide ((gr4.block C (heap_lt (show W5.drew.heap[C]? = _ from C5.out)) (fun q => by injection q with q; obtain ⟨es, ck, hb, -⟩ := H5.out.mp; rw [← q, C5.out] at hb; cases hb)).trans (show W5.drew.heap[C]? = _ from C5.out))
     have z2 : W5.drew.cell? ⟨R, 2, none⟩ = some (.map (some mb)) := cell_of H5.out.hR 2
     have u2 : W5.drew.cell? ⟨E, 2, none⟩ = some (.int .i64 (j : Int)) := by rw [← HJ.out]; exact cell_of E5.out 2
     have w0 : W5.drew.cell? ⟨C, 0, none⟩ = some (.int .i64 x'.cap) := cell_of C5.out 0
     have w1 : W5.drew.cell? ⟨C, 1, none⟩ = some (Value.slice (some ⟨x'.b, x'.o, none⟩) (x'.n - 1) 0) := cell_of C5.out 1
     have w2 : W5.drew.cell? ⟨C, 2, none⟩ = some (.bool x'.cl) := cell_of C5.out 2
     have q0 : w4.cell? ⟨C, 0, none⟩ = some (.int .i64 x'.cap) := cell_of C4.out 0
     have q1 : w4.cell? ⟨C, 1, none⟩ = some (Value.slice (some ⟨x'.b, x'.o, none⟩) (x'.n - 1) 0) := cell_of C4.out 1
     clear mu g4 b4 gr4 H4
     go_cut [] (fun wc => wc = w4)
     case first =>
      go_region
      all_goals
       go_wp2_with fail
       go_meet
       case rel => rfl
     case rest =>
     obtain rfl := hcut
     clear MU z2 u2 w0 w1 w2
     by_cases hle : (r.length : Int) ≤ d.cap
     ·rw [if_pos hle] at hR
      have dle : decide (((x'.n - 1 : Nat) : Int) ≤ x'.cap) = true := by rw [X3.out.1]; exact decide_eq_true (by have := V5.out.len; unfold tl at this; simp only at this; omega)
      clear hle
      go_wp2_with fail
      go_ret
      exact ChP.yes hR.symm G4.out B4.out
     ·rw [if_neg hle] at hR
      have dle : decide (((x'.n - 1 : Nat) : Int) ≤ x'.cap) = false := by rw [X3.out.1]; exact decide_eq_false (by have := V5.out.len; unfold tl at this; simp only at this; omega)
      clear hle
      go_wp2_with fail
      go_ret
      exact ChP.no hR.symm B4.out
    ·skip
     have HS5 : Hid (svs (tl x') = Value.slice (some ⟨x'.b, x'.o + 1, none⟩) (x'.n - 1) (x'.c - 1)) := by show _ = _; unfold svs tl; simp [hnil, hc1]
     have K5 := (KB.refl C W3).setCell 1 (Value.slice (some ⟨x'.b, x'.o + 1, none⟩) (x'.n - 1) (x'.c - 1))
     have H5 := hide ((H3.out.kb C3.out K5).below (bdrew1 _))
     have V5 := hide ((HV.out.noC C3.out K5).keep (w' := (W3.setCell ⟨C, 1, none⟩ (Value.slice (some ⟨x'.b, x'.o + 1, none⟩) (x'.n - 1) (x'.c - 1))).drew) fun _ => rfl)
     have A5 : Hid (Ap mb vs cs j (tl x')) := ⟨A3.out.d, A3.out.v, A3.out.m⟩
     have E5 := hide (heap_below (ev_noC E3.out C3.out K5) (bdrew1 _))
     have C5 := hide (heap_below (Ba.heap_setCell_same (i := 1) C3.out (Value.slice (some ⟨x'.b, x'.o + 1, none⟩) (x'.n - 1) (x'.c - 1))) (bdrew1 _))
     have b5 := B3.out.kb K5 hCN hNw C3.out (by decide)
     have B5 := hide (b5.trans (Fb.of (bdrew1 _) (by have := b5.size; omega)))
     clear K5 b5
     go_upto_region 16 with fail
     generalize (W3.setCell ⟨C, 1, none⟩ (Value.slice (some ⟨x'.b, x'.o + 1, none⟩) (x'.n - 1) (x'.c - 1))).drew = W5 at *
     clear y1 y1' f1 r0 v4'
     have H4 := H5.out.below (bdrew1 W5)
     obtain ⟨w4, mu, g4, b4, gr4⟩ := H4.put (i := j) (by rw [H4.len]; omega) (by rw [H4.len]; omega) (tl x') ⟨d.cap, r, d.cl⟩ (V5.out.keep fun _ => rfl) X3.out.1 X3.out.2 A5.out.d A5.out.v A5.out.m
     rw [upl_set hjl] at g4
     have G4 := hide g4
     have B4 := hide ((B5.out.trans (Fb.of (bdrew1 W5) (by have := B5.out.size; omega))).trans b4)
     have MU : (Instr.mapUpdate 171 (.map (some mb)) (.int .i64 (j : Int)) (.agg #[.int .i64 x'.cap, Value.slice (some ⟨x'.b, x'.o + 1, none⟩) (x'.n - 1) (x'.c - 1), .bool x'.cl])).run Tryz.prog W5.drew = .ok () w4 := by rw [← HS5.out]; exact mu
     have C4 := hide ((gr4.block C (heap_lt (show W5.drew.heap[C]? = _ from C5.out)) (fun q => by injection q with q; obtain ⟨es, ck, hb, -⟩ := H5.out.mp; rw [← q, C5.out] at hb; cases hb)).trans (show W5.drew.heap[C]? = _ from C5.out))
     have z2 : W5.drew.cell? ⟨R, 2, none⟩ = some (.map (some mb)) := cell_of H5.out.hR 2
     have u2 : W5.drew.cell? ⟨E, 2, none⟩ = some (.int .i64 (j : Int)) := by rw [← HJ.out]; exact cell_of E5.out 2
     have w0 : W5.drew.cell? ⟨C, 0, none⟩ = some (.int .i64 x'.cap) := cell_of C5.out 0
     have w1 : W5.drew.cell? ⟨C, 1, none⟩ = some (Value.slice (some ⟨x'.b, x'.o + 1, none⟩) (x'.n - 1) (x'.c - 1)) := cell_of C5.out 1
     have w2 : W5.drew.cell? ⟨C, 2, none⟩ = some (.bool x'.cl) := cell_of C5.out 2
     have q0 : w4.cell? ⟨C, 0, none⟩ = some (.int .i64 x'.cap) := cell_of C4.out 0
     have q1 : w4.cell? ⟨C, 1, none⟩ = some (Value.slice (some ⟨x'.b, x'.o + 1, none⟩) (x'.n - 1) (x'.c - 1)) := cell_of C4.out 1
     clear mu g4 b4 gr4 H4
     go_cut [] (fun wc => wc = w4)
     case first =>
      go_region
      all_goals
       go_wp2_with fail
       go_meet
       case rel => rfl
     case rest =>
     obtain rfl := hcut
     clear MU z2 u2 w0 w1 w2
     by_cases hle : (r.length : Int) ≤ d.cap
     ·rw [if_pos hle] at hR
      have dle : decide (((x'.n - 1 : Nat) : Int) ≤ x'.cap) = true := by rw [X3.out.1]; exact decide_eq_true (by have := V5.out.len; unfold tl at this; simp only at this; omega)
      clear hle
      go_wp2_with fail
      go_ret
      exact ChP.yes hR.symm G4.out B4.out
     ·rw [if_neg hle] at hR
      have dle : decide (((x'.n - 1 : Nat) : Int) ≤ x'.cap) = false := by rw [X3.out.1]; exact decide_eq_false (by have := V5.out.len; unfold tl at this; simp only at this; omega)
      clear hle
      go_wp2_with fail
      go_ret
      exact ChP.no hR.symm B4.out
end Gu
end Go.Proofs.YtblfimobiibmjaaGreat
namespace Go.Proofs.YtblfimobiibmjaaGreat
open Go.ChangeShapes Go.WideShapes Go.ChangeAt Go.RowKit
namespace Gu
open En Ba
def rl (i k : Nat) (e : Ev) (nx : Option Ev) (s : Gs) : Option Gs := match i with
 | 0 => if 2000 ≤ k ∨ chk e ≠ 0 then none else some s
 | 1 => (r2 s.st s.pn e).map fun q => { s with st := q.1, pn := q.2 }
 | 2 => (r3 s.ch e).map fun c => { s with ch := c }
 | 3 => (r4 s.la e).map fun x => { s with la := x }
 | 4 => (r5 s.ch e nx).map fun c => { s with ch := c }
 | _ => (r6 s.ch e).map fun c => { s with ch := c }
def upto (i k : Nat) (e : Ev) (nx : Option Ev) (s : Gs) : Option Gs := match i with
 | 0 => some s
 | i + 1 => (upto i k e nx s).bind (rl i k e nx)
theorem stepG_rl (s : Gs) (k : Nat) (e : Ev) (nx : Option Ev) :
 (∃ n s', n < 6 ∧ upto n k e nx s = some s' ∧ rl n k e nx s' = none ∧ stepG s k e nx = .error ((n : Int) + 1)) ∨ (∃ s', upto 6 k e nx s = some s' ∧ stepG s k e nx = .ok s') := by
 unfold stepG
 by_cases h1 : 2000 ≤ k ∨ chk e ≠ 0
 ·exact .inl ⟨0, s, by decide, rfl, by unfold rl; simp only; rw [if_pos h1], by rw [if_pos h1]; rfl⟩
 rw [if_neg h1]
 have u1 : upto 1 k e nx s = some s := by unfold upto upto rl; simp only [Option.bind_some]; rw [if_neg h1]
 cases e2 : r2 s.st s.pn e with
 | none => exact .inl ⟨1, s, by decide, u1, by simp [rl, e2], rfl⟩
 | some q =>
 obtain ⟨st, pn⟩ := q
 have u2 : upto 2 k e nx s = some { s with st := st, pn := pn } := by unfold upto; rw [u1]; simp [rl, e2]
 cases e3 : r3 s.ch e with
 | none => exact .inl ⟨2, _, by decide, u2, by simp [rl, e3], rfl⟩
 | some ch3 =>
 have u3 : upto 3 k e nx s = some { s with st := st, pn := pn, ch := ch3 } := by unfold upto; rw [u2]; simp [rl, e3]
 cases e4 : r4 s.la e with
 | none => exact .inl ⟨3, _, by decide, u3, by simp [rl, e4], rfl⟩
 | some la =>
 have u4 : upto 4 k e nx s = some ⟨st, pn, ch3, la⟩ := by unfold upto; rw [u3]; simp [rl, e4]
 cases e5 : r5 ch3 e nx with
 | none => exact .inl ⟨4, _, by decide, u4, by simp [rl, e5], by simp only [e5]; rfl⟩
 | some ch5 =>
 have u5 : upto 5 k e nx s = some ⟨st, pn, ch5, la⟩ := by unfold upto; rw [u4]; simp [rl, e5]
 cases e6 : r6 ch5 e with
 | none => exact .inl ⟨5, _, by decide, u5, by simp [rl, e6], by simp only [e5, e6]; rfl⟩
 | some ch6 =>
 have u6 : upto 6 k e nx s = some ⟨st, pn, ch6, la⟩ := by unfold upto; rw [u5]; simp [rl, e6]
 exact .inr ⟨_, u6, by simp only [e5, e6]⟩
structure Bn (s : Gs) (m : Nat) : Prop where
 st : s.st.length ≤ m
 ch : s.ch.length ≤ m
 vs : ∀ (j : Nat) d, s.ch[j]? = some d → d.vs.length ≤ m
theorem Bn.mono {s : Gs} {m n : Nat} (h : Bn s m) (hn : m ≤ n) : Bn s n := ⟨Nat.le_trans h.st hn, Nat.le_trans h.ch hn, fun j d hd => Nat.le_trans (h.vs j d hd) hn⟩
theorem r2_len {st st' : List Int} {pn pn' : Bool} {e : Ev} (h : r2 st pn e = some (st', pn')) : st'.length ≤ st.length + 1 := by
 unfold r2 at h
 repeat' split at h
 all_goals first | (cases h; done) | (cases h; simp)
theorem r3_len {ch ch' : List Chn} {e : Ev} (h : r3 ch e = some ch') : (e.k = 2 ∧ ch' = ch ++ [⟨e.v, [], false⟩]) ∨ (e.k ≠ 2 ∧ ch' = ch ∧ e.c < ch.length) := by
 unfold r3 at h
 split at h
 ·split at h
  ·cases h
  ·cases h; exact .inl ⟨by assumption, rfl⟩
 ·split at h
  ·cases h; exact .inr ⟨by assumption, rfl, by assumption⟩
  ·cases h
theorem putP_len (c : Chn) (e : Ev) (nx : Option Ev) : (putP c e nx).length ≤ c.vs.length + 1 := by
 unfold putP
 split
 ·simp
 ·split
  ·cases nx <;> simp
  ·simp
theorem r5c_len {c c' : Chn} {e : Ev} {nx : Option Ev} (h : r5c c e nx = some c') : c'.vs.length ≤ c.vs.length + 1 := by
 have hp := putP_len c e nx
 unfold r5c at h
 split at h
 ·split at h
  ·split at h
   ·cases h; exact Nat.le_succ _
   ·cases h
  ·rename_i v r hq
   rw [hq] at hp
   split at h
   ·cases h
   ·split at h
    ·cases h; simp at hp ⊢; omega
    ·cases h
 ·split at h
  ·cases h; exact hp
  ·cases h
theorem getD_at {ch : List Chn} {m j : Nat} (h : ∀ (j : Nat) d, ch[j]? = some d → d.vs.length ≤ m) : (ch.getD j chz).vs.length ≤ m := by
 rw [List.getD_eq_getElem?_getD]
 cases hq : ch[j]? with
 | none => exact Nat.zero_le _
 | some d => exact h j d hq
theorem set_vs {ch : List Chn} {m j : Nat} {c : Chn} (h : ∀ (j : Nat) d, ch[j]? = some d → d.vs.length ≤ m) (hc : c.vs.length ≤ m + 1) (i : Nat) (d : Chn) (hd : (ch.set j c)[i]? = some d) : d.vs.length ≤ m + 1 := by
 by_cases e : j = i
 ·subst e
  have hl : j < ch.length := by have := (List.getElem?_eq_some_iff.1 hd).1; simpa using this
  rw [List.getElem?_set_self hl] at hd
  cases hd
  exact hc
 ·rw [List.getElem?_set_ne e] at hd
  exact Nat.le_succ_of_le (h i d hd)
theorem Bn.rl {i k : Nat} {e : Ev} {nx : Option Ev} {s s' : Gs} {m : Nat} (h : Bn s m) (hr : rl i k e nx s = some s') : Bn s' (m + 1) := by
 unfold Gu.rl at hr
 split at hr
 ·split at hr
  ·cases hr
  ·cases hr; exact h.mono (Nat.le_succ _)
 ·rw [Option.map_eq_some_iff] at hr
  obtain ⟨q, hq, rfl⟩ := hr
  have := r2_len (st' := q.1) (pn' := q.2) hq
  exact ⟨by have := h.st; simp only; omega, Nat.le_succ_of_le h.ch, fun j d hd => Nat.le_succ_of_le (h.vs j d hd)⟩
 ·rw [Option.map_eq_some_iff] at hr
  obtain ⟨q, hq, rfl⟩ := hr
  rcases r3_len hq with ⟨-, rfl⟩ | ⟨-, rfl, -⟩
  ·refine ⟨Nat.le_succ_of_le h.st, by have := h.ch; simp; omega, fun j d hd => ?_⟩
   simp only at hd
   by_cases hj : j < s.ch.length
   ·rw [List.getElem?_append_left hj] at hd
    exact Nat.le_succ_of_le (h.vs j d hd)
   ·rw [List.getElem?_append_right (by omega)] at hd
    have : d = ⟨e.v, [], false⟩ := by
     have hl := (List.getElem?_eq_some_iff.1 hd).1
     simp at hl
     rw [hl] at hd
     simp at hd
     exact hd.symm
    rw [this]
    exact Nat.zero_le _
  ·exact h.mono (Nat.le_succ _)
 ·rw [Option.map_eq_some_iff] at hr
  obtain ⟨q, hq, rfl⟩ := hr
  exact ⟨Nat.le_succ_of_le h.st, Nat.le_succ_of_le h.ch, fun j d hd => Nat.le_succ_of_le (h.vs j d hd)⟩
 ·rw [Option.map_eq_some_iff] at hr
  obtain ⟨q, hq, rfl⟩ := hr
  unfold r5 at hq
  split at hq
  ·rw [Option.map_eq_some_iff] at hq
   obtain ⟨c, hc, rfl⟩ := hq
   refine ⟨Nat.le_succ_of_le h.st, by simp; exact Nat.le_succ_of_le h.ch, set_vs h.vs ?_⟩
   have := r5c_len hc
   have := getD_at (j := e.c.toNat) h.vs
   omega
  ·cases hq; exact h.mono (Nat.le_succ _)
 ·rw [Option.map_eq_some_iff] at hr
  obtain ⟨q, hq, rfl⟩ := hr
  have hg := getD_at (j := e.c.toNat) h.vs
  unfold r6 at hq
  simp only at hq
  repeat' split at hq
  all_goals first
   | (cases hq; done)
   | (cases hq; exact h.mono (Nat.le_succ _))
   | (cases hq; exact ⟨Nat.le_succ_of_le h.st, by simp; exact Nat.le_succ_of_le h.ch, set_vs h.vs (by simp only; omega)⟩)
theorem Bn.upto {i k : Nat} {e : Ev} {nx : Option Ev} {s s' : Gs} {m : Nat} (h : Bn s m) (hr : upto i k e nx s = some s') : Bn s' (m + i) := by
 induction i generalizing s' with
 | zero => cases hr; exact h
 | succ i ih =>
   unfold Gu.upto at hr
   rw [Option.bind_eq_some_iff] at hr
   obtain ⟨t, ht, hr⟩ := hr
   exact (ih ht).rl hr
theorem up_chk {i k : Nat} {e : Ev} {nx : Option Ev} {s s' : Gs} (hi : 1 ≤ i) (hr : upto i k e nx s = some s') : chk e = 0 := by
 induction i generalizing s' with
 | zero => omega
 | succ i ih =>
   unfold Gu.upto at hr
   rw [Option.bind_eq_some_iff] at hr
   obtain ⟨t, ht, hr⟩ := hr
   by_cases h0 : i = 0
   ·subst h0
    unfold rl at hr
    simp only at hr
    split at hr
    ·cases hr
    ·omega
   ·exact ih (by omega) ht
theorem up_in {k : Nat} {e : Ev} {nx : Option Ev} {s s' : Gs} (h2 : e.k ≠ 2) :
 (upto 4 k e nx s = some s' → e.c < s'.ch.length) ∧ (upto 5 k e nx s = some s' → e.c < s'.ch.length) := by
 have h3 : ∀ t, upto 3 k e nx s = some t → e.c < t.ch.length := fun t ht => by
  unfold upto at ht
  rw [Option.bind_eq_some_iff] at ht
  obtain ⟨u, -, hu⟩ := ht
  unfold rl at hu
  simp only at hu
  rw [Option.map_eq_some_iff] at hu
  obtain ⟨q, hq, rfl⟩ := hu
  rcases r3_len hq with ⟨q2, -⟩ | ⟨-, rfl, h⟩
  ·exact absurd q2 h2
  ·exact h
 have h4 : ∀ t, upto 4 k e nx s = some t → e.c < t.ch.length := fun t ht => by
  unfold upto at ht
  rw [Option.bind_eq_some_iff] at ht
  obtain ⟨u, hu0, hu⟩ := ht
  unfold rl at hu
  simp only at hu
  rw [Option.map_eq_some_iff] at hu
  obtain ⟨q, -, rfl⟩ := hu
  exact h3 u hu0
 refine ⟨h4 s', fun ht => ?_⟩
 unfold upto at ht
 rw [Option.bind_eq_some_iff] at ht
 obtain ⟨u, hu0, hu⟩ := ht
 unfold rl at hu
 simp only at hu
 rw [Option.map_eq_some_iff] at hu
 obtain ⟨q, hq, rfl⟩ := hu
 have := h4 u hu0
 unfold r5 at hq
 split at hq
 ·rw [Option.map_eq_some_iff] at hq
  obtain ⟨c, -, rfl⟩ := hq
  simpa using this
 ·cases hq; exact this
theorem c_pos {e : Ev} (h : chk e = 0) (hk : e.k = 3 ∨ e.k = 4 ∨ e.k = 5) : 0 ≤ e.c := by
 have f := fit_of h
 exact f.c (by omega)
def RP (q : Option Gs) (N R : Nat) (ev : Value) (w : World) (r : Ending) (w' : World) : Prop := ((q = none ∧ r = .returned (.bool false)) ∨ ∃ s', q = some s' ∧ r = .returned (.bool true) ∧ GW w' N R ev s') ∧ Fb N w w'
section
variable {w w' : World} {N R k c : Nat} {ev : Value} {e : Ev} {nx : Option Ev} {s s0 : Gs} {r : Ending} {oa : Option Addr} {l : List Ev}
theorem rp1 (h : GoP (r2 s.st s.pn e) N R ev s w r w') : RP (rl 1 k e nx s) N R ev w r w' := by
 obtain ⟨h | ⟨st, pn, h1, h2, h3⟩, b⟩ := h
 ·exact ⟨.inl ⟨by simp [rl, h.1], h.2⟩, b⟩
 ·exact ⟨.inr ⟨_, by simp only [rl, h1]; rfl, h2, h3⟩, b⟩
theorem rp2 (h : ChP (r3 s.ch e) N R ev s w r w') : RP (rl 2 k e nx s) N R ev w r w' := by
 obtain ⟨h | ⟨st, h1, h2, h3⟩, b⟩ := h
 ·exact ⟨.inl ⟨by simp [rl, h.1], h.2⟩, b⟩
 ·exact ⟨.inr ⟨_, by simp only [rl, h1]; rfl, h2, h3⟩, b⟩
theorem rp3 (h : SeP (r4 s.la e) N R ev s w r w') : RP (rl 3 k e nx s) N R ev w r w' := by
 obtain ⟨h | ⟨st, h1, h2, h3⟩, b⟩ := h
 ·exact ⟨.inl ⟨by simp [rl, h.1], h.2⟩, b⟩
 ·exact ⟨.inr ⟨_, by simp only [rl, h1]; rfl, h2, h3⟩, b⟩
theorem rp4 (h : ChP (r5 s.ch e nx) N R ev s w r w') : RP (rl 4 k e nx s) N R ev w r w' := by
 obtain ⟨h | ⟨st, h1, h2, h3⟩, b⟩ := h
 ·exact ⟨.inl ⟨by simp [rl, h.1], h.2⟩, b⟩
 ·exact ⟨.inr ⟨_, by simp only [rl, h1]; rfl, h2, h3⟩, b⟩
theorem rp5 (h : ChP (r6 s.ch e) N R ev s w r w') : RP (rl 5 k e nx s) N R ev w r w' := by
 obtain ⟨h | ⟨st, h1, h2, h3⟩, b⟩ := h
 ·exact ⟨.inl ⟨by simp [rl, h.1], h.2⟩, b⟩
 ·exact ⟨.inr ⟨_, by simp only [rl, h1]; rfl, h2, h3⟩, b⟩
theorem c0_any (h : GW w N R (.slice oa l.length c) s) (hA : EsAt w oa l) (hi : l[k]? = some e) (hN : N ≤ w.heap.size) : Calls Tryz.prog 113 #[.pointer (some ⟨R, 0, none⟩), .int .i64 (k : Int)] w fun r w' => RP (rl 0 k e nx s) N R (.slice oa l.length c) w r w' := by
 refine (right_any h hA hi).mono ?_
 rintro r w' ⟨rfl, b⟩
 have hg : GW w' N R (.slice oa l.length c) s := by obtain ⟨mb, vs, D, cs, g⟩ := h; exact ⟨mb, vs, D, cs, g.below b⟩
 by_cases h1 : 2000 ≤ k ∨ chk e ≠ 0
 ·refine ⟨.inl ⟨by unfold rl; simp only; rw [if_pos h1], ?_⟩, Fb.of b hN⟩
  have : (decide (2000 ≤ k) || decide (chk e ≠ 0)) = true := by simpa using h1
  rw [this]; rfl
 ·refine ⟨.inr ⟨s, by unfold rl; simp only; rw [if_neg h1], ?_, hg⟩, Fb.of b hN⟩
  have : (decide (2000 ≤ k) || decide (chk e ≠ 0)) = false := by
   rw [Bool.eq_false_iff]; intro q; exact h1 (by simpa using q)
  rw [this]; rfl
theorem c1_any (h : GW w N R (.slice oa l.length c) s) (hA : EsAt w oa l) (hi : l[k]? = some e) (hN : N ≤ w.heap.size) (bn : Bn s 3000) (hu : upto 1 k e nx s0 = some s) : Calls Tryz.prog 114 #[.pointer (some ⟨R, 0, none⟩), .int .i64 (k : Int)] w fun r w' => RP (rl 1 k e nx s) N R (.slice oa l.length c) w r w' :=
 (gor_any h hA hi (fit_of (up_chk (by decide) hu)).g bn.st hN).mono fun _ _ q => rp1 q
theorem c2_any (h : GW w N R (.slice oa l.length c) s) (hA : EsAt w oa l) (hi : l[k]? = some e) (hN : N ≤ w.heap.size) (bn : Bn s 3000) : Calls Tryz.prog 115 #[.pointer (some ⟨R, 0, none⟩), .int .i64 (k : Int)] w fun r w' => RP (rl 2 k e nx s) N R (.slice oa l.length c) w r w' :=
 (numb_any h hA hi bn.ch hN).mono fun _ _ q => rp2 q
theorem c3_any (h : GW w N R (.slice oa l.length c) s) (hA : EsAt w oa l) (hi : l[k]? = some e) (hN : N ≤ w.heap.size) : Calls Tryz.prog 116 #[.pointer (some ⟨R, 0, none⟩), .int .i64 (k : Int)] w fun r w' => RP (rl 3 k e nx s) N R (.slice oa l.length c) w r w' :=
 (serv_any h hA hi hN).mono fun _ _ q => rp3 q
theorem c4_any (h : GW w N R (.slice oa l.length c) s) (hA : EsAt w oa l) (hi : l[k]? = some e) (hN : N ≤ w.heap.size) (bn : Bn s 3000) (hll : l.length ≤ 4000) (hu : upto 4 k e l[k + 1]? s0 = some s) : Calls Tryz.prog 117 #[.pointer (some ⟨R, 0, none⟩), .int .i64 (k : Int)] w fun r w' => RP (rl 4 k e l[k + 1]? s) N R (.slice oa l.length c) w r w' :=
 (ord_any h hA hi (chk_c (up_chk (by decide) hu)) (fun q => by
   have h3 := moves_k q
   exact ⟨c_pos (up_chk (by decide) hu) (by omega), (up_in (by omega)).1 hu⟩) bn.ch bn.vs hll hN).mono fun _ _ q => rp4 q
theorem c5_any (h : GW w N R (.slice oa l.length c) s) (hA : EsAt w oa l) (hi : l[k]? = some e) (hN : N ≤ w.heap.size) (bn : Bn s 3000) (hu : upto 5 k e nx s0 = some s) : Calls Tryz.prog 118 #[.pointer (some ⟨R, 0, none⟩), .int .i64 (k : Int)] w fun r w' => RP (rl 5 k e nx s) N R (.slice oa l.length c) w r w' :=
 (clos_any h hA hi (chk_c (up_chk (by decide) hu)) (fun q => ⟨c_pos (up_chk (by decide) hu) q, (up_in (by omega)).2 hu⟩) bn.ch bn.vs hN).mono fun _ _ q => rp5 q
end
def BrP (k : Nat) (e : Ev) (nx : Option Ev) (s : Gs) (N R : Nat) (ev : Value) (w : World) (r : Ending) (w' : World) : Prop :=
 ((∃ n : Int, stepG s k e nx = .error n ∧ r = .returned (.int .i64 n)) ∨ ∃ s', stepG s k e nx = .ok s' ∧ r = .returned (.int .i64 0) ∧ GW w' N R ev s') ∧ Fb N w w'
theorem BrP.no {k n : Nat} {e : Ev} {nx : Option Ev} {s s' : Gs} {N R : Nat} {ev : Value} {w w' : World} {v : Int} (hn : n < 6) (hu : upto n k e nx s = some s') (hr : rl n k e nx s' = none) (hv : v = (n : Int) + 1) (b : Fb N w w') : BrP k e nx s N R ev w (.returned (.int .i64 v)) w' := by
 subst hv
 have key : ∀ a b, a ≤ b → ∀ t, upto b k e nx s = some t → ∃ u, upto a k e nx s = some u := by
  intro a b hab
  induction b with
  | zero => intro t ht; have : a = 0 := by omega
            subst this; exact ⟨t, ht⟩
  | succ b ih =>
    intro t ht
    by_cases hq : a = b + 1
    ·subst hq; exact ⟨t, ht⟩
    ·unfold upto at ht
     rw [Option.bind_eq_some_iff] at ht
     obtain ⟨u, hu, -⟩ := ht
     exact ih (by omega) u hu
 have stop : ∀ m, n < m → ∀ t, upto m k e nx s = some t → False := fun m hm t ht => by
  obtain ⟨u, hu'⟩ := key (n + 1) m hm t ht
  unfold upto at hu'
  rw [hu] at hu'
  simp [hr] at hu'
 rcases stepG_rl s k e nx with ⟨m, t, hm, h1, h2, h3⟩ | ⟨t, h1, -⟩
 ·have : m = n := by
   rcases Nat.lt_trichotomy m n with q | q | q
   ·obtain ⟨u, hu'⟩ := key (m + 1) n q s' hu
    unfold upto at hu'
    rw [h1] at hu'
    simp [h2] at hu'
   ·exact q
   ·exact (stop m q t h1).elim
  subst this
  exact ⟨.inl ⟨_, h3, rfl⟩, b⟩
 ·exact (stop 6 hn t h1).elim
theorem BrP.yes {k : Nat} {e : Ev} {nx : Option Ev} {s s' : Gs} {N R : Nat} {ev : Value} {w w' : World} (hu : upto 6 k e nx s = some s') (g : GW w' N R ev s') (b : Fb N w w') : BrP k e nx s N R ev w (.returned (.int .i64 0)) w' := by
 rcases stepG_rl s k e nx with ⟨m, t, hm, h1, h2, h3⟩ | ⟨t, h1, h2⟩
 ·exfalso
  have key : ∀ b, m < b → upto b k e nx s = none := by
   intro b hb
   induction b with
   | zero => omega
   | succ b ih =>
     unfold upto
     by_cases hq : b = m
     ·subst hq; rw [h1]; simp [h2]
     ·rw [ih (by omega)]; rfl
  rw [key 6 hm] at hu
  cases hu
 ·rw [h1] at hu
  cases hu
  exact ⟨.inr ⟨_, h2, rfl, g⟩, b⟩
def fv (R : Nat) (f : Nat) : Value := .func (.func f) #[.pointer (some ⟨R, 0, none⟩)] #[]
set_option maxRecDepth 100000 in
set_option maxHeartbeats 6400000 in
theorem bro_any {w0 w : World} {N R B c k : Nat} {oa : Option Addr} {l : List Ev} {s : Gs} {e : Ev} (h : GW w N R (.slice oa l.length c) s) (hA : EsAt w0 oa l) (hN0 : N = w0.heap.size) (hb0 : Below N w0 w) (hi : l[k]? = some e) (bn : Bn s 2900) (hll : l.length ≤ 4000) (hB : w.heap[B]? = some (.cells #[fv R 113, fv R 114, fv R 115, fv R 116, fv R 117, fv R 118] 95 (0, 0))) :
 Calls Tryz.prog 112 #[.int .i64 (k : Int), .slice (some ⟨B, 0, none⟩) 6 6] w fun r w' => BrP k e l[k + 1]? s N R (.slice oa l.length c) w r w' := by
 have HH := hide h
 have HA := hide hA
 have HI := hide hi
 have BN := hide bn
 have HB := hide hB
 have HB0 := hide hb0
 have hNw : N ≤ w.heap.size := by rw [hN0]; exact hN0 ▸ hb0.size
 have HN := hide hNw
 have HN0 := hide hN0
 obtain ⟨nx, hnx⟩ : ∃ nx, l[k + 1]? = nx := ⟨_, rfl⟩
 obtain ⟨ev, hev⟩ : ∃ ev, Value.slice oa l.length c = ev := ⟨_, rfl⟩
 have HNX := hide hnx
 have HEV := hide hev
 rw [hnx, hev]
 rw [hev] at HH
 have HLL := hide hll
 clear h hA hi bn hB hb0 hnx hev hN0 hNw hll
 go_enter Tryz.func112, Tryz.ntmps112
 go_wp2_with fail
 go_loopw [9] (fun i wr => ∃ (n : Nat) (t : Gs), n ≤ 6 ∧ i = .int .i64 (n : Int) ∧ upto n k e nx s = some t ∧ GW wr N R ev t ∧ Fb N w wr) (fun i _ => 6 - (intOf i).toNat)
 case atStart => exact ⟨0, s, Nat.zero_le _, rfl, rfl, HH.out, Fb.of (Below.refl _ _) HN.out⟩
 case round =>
  obtain ⟨n, t, hn, rfl, hu, g, fb⟩ := hrel
  have HU := hide hu
  have HG := hide g
  have FB := hide fb
  have HW : Hid (N ≤ wr.heap.size) := by have := FB.out.size; have := HN.out; show N ≤ _; omega
  have EA : Hid (EsAt wr oa l) := HA.out.below (by rw [← HN0.out]; exact HB0.out.trans FB.out.b)
  have CB := hide (FB.out.f _ _ HB.out)
  have B3 := hide ((BN.out.upto HU.out).mono (show 2900 + n ≤ 3000 by omega))
  clear hu g fb
  by_cases hlt : n < 6
  ·have hlt' : (n : Int) < 6 := by omega
   have hcs : n = 0 ∨ n = 1 ∨ n = 2 ∨ n = 3 ∨ n = 4 ∨ n = 5 := by omega
   rcases hcs with q | q | q | q | q | q
   ·have cf : wr.cell? ⟨B, n, none⟩ = some (.func (.func 113) #[.pointer (some ⟨R, 0, none⟩)] #[]) := by rw [q]; exact cell_of CB.out 0
    have CT : Hid (Calls Tryz.prog 113 #[.pointer (some ⟨R, 0, none⟩), .int .i64 (k : Int)] wr fun r w' => RP (rl n k e nx t) N R ev wr r w') := by
     show Calls _ _ _ _ _
     have g := HG.out
     have ea := EA.out
     have hu := HU.out
     rw [q] at hu ⊢
     rw [← HEV.out] at g ⊢
     rw [← HNX.out] at hu ⊢
     exact c0_any g ea HI.out HW.out
    clear q
    go_wp2_with fail
    refine CT.out.mono ?_
    rintro r w1 ⟨⟨hq, rfl⟩ | ⟨t', hq, rfl, g'⟩, fb1⟩
    ·have HQ := hide hq
     have FB1 := hide (FB.out.trans fb1)
     clear hq fb1
     go_wp2_with fail
     go_ret
     exact BrP.no hlt HU.out HQ.out rfl FB1.out
    ·have HQ : Hid (upto (n + 1) k e nx s = some t') := by show _ = _; unfold upto; rw [HU.out]; exact hq
     have FB1 := hide (FB.out.trans fb1)
     have G1 := hide g'
     clear hq fb1 g'
     go_wp2_with fail
     go_roundw
     case measure => simp [intOf]; omega
     case rel => exact ⟨n + 1, t', by omega, by simp, HQ.out, G1.out, FB1.out⟩
   ·have cf : wr.cell? ⟨B, n, none⟩ = some (.func (.func 114) #[.pointer (some ⟨R, 0, none⟩)] #[]) := by rw [q]; exact cell_of CB.out 1
    have CT : Hid (Calls Tryz.prog 114 #[.pointer (some ⟨R, 0, none⟩), .int .i64 (k : Int)] wr fun r w' => RP (rl n k e nx t) N R ev wr r w') := by
     show Calls _ _ _ _ _
     have g := HG.out
     have ea := EA.out
     have hu := HU.out
     rw [q] at hu ⊢
     rw [← HEV.out] at g ⊢
     rw [← HNX.out] at hu ⊢
     exact c1_any g ea HI.out HW.out B3.out hu
    clear q
    go_wp2_with fail
    refine CT.out.mono ?_
    rintro r w1 ⟨⟨hq, rfl⟩ | ⟨t', hq, rfl, g'⟩, fb1⟩
    ·have HQ := hide hq
     have FB1 := hide (FB.out.trans fb1)
     clear hq fb1
     go_wp2_with fail
     go_ret
     exact BrP.no hlt HU.out HQ.out rfl FB1.out
    ·have HQ : Hid (upto (n + 1) k e nx s = some t') := by show _ = _; unfold upto; rw [HU.out]; exact hq
     have FB1 := hide (FB.out.trans fb1)
     have G1 := hide g'
     clear hq fb1 g'
     go_wp2_with fail
     go_roundw
     case measure => simp [intOf]; omega
     case rel => exact ⟨n + 1, t', by omega, by simp, HQ.out, G1.out, FB1.out⟩
   ·have cf : wr.cell? ⟨B, n, none⟩ = some (.func (.func 115) #[.pointer (some ⟨R, 0, none⟩)] #[]) := by rw [q]; exact cell_of CB.out 2
    have CT : Hid (Calls Tryz.prog 115 #[.pointer (some ⟨R, 0, none⟩), .int .i64 (k : Int)] wr fun r w' => RP (rl n k e nx t) N R ev wr r w') := by
     show Calls _ _ _ _ _
     have g := HG.out
     have ea := EA.out
     have hu := HU.out
     rw [q] at hu ⊢
     rw [← HEV.out] at g ⊢
     rw [← HNX.out] at hu ⊢
     exact c2_any g ea HI.out HW.out B3.out
    clear q
    go_wp2_with fail
    refine CT.out.mono ?_
    rintro r w1 ⟨⟨hq, rfl⟩ | ⟨t', hq, rfl, g'⟩, fb1⟩
    ·have HQ := hide hq
     have FB1 := hide (FB.out.trans fb1)
     clear hq fb1
     go_wp2_with fail
     go_ret
     exact BrP.no hlt HU.out HQ.out rfl FB1.out
    ·have HQ : Hid (upto (n + 1) k e nx s = some t') := by show _ = _; unfold upto; rw [HU.out]; exact hq
     have FB1 := hide (FB.out.trans fb1)
     have G1 := hide g'
     clear hq fb1 g'
     go_wp2_with fail
     go_roundw
     case measure => simp [intOf]; omega
     case rel => exact ⟨n + 1, t', by omega, by simp, HQ.out, G1.out, FB1.out⟩
   ·have cf : wr.cell? ⟨B, n, none⟩ = some (.func (.func 116) #[.pointer (some ⟨R, 0, none⟩)] #[]) := by rw [q]; exact cell_of CB.out 3
    have CT : Hid (Calls Tryz.prog 116 #[.pointer (some ⟨R, 0, none⟩), .int .i64 (k : Int)] wr fun r w' => RP (rl n k e nx t) N R ev wr r w') := by
     show Calls _ _ _ _ _
     have g := HG.out
     have ea := EA.out
     have hu := HU.out
     rw [q] at hu ⊢
     rw [← HEV.out] at g ⊢
     rw [← HNX.out] at hu ⊢
     exact c3_any g ea HI.out HW.out
    clear q
    go_wp2_with fail
    refine CT.out.mono ?_
    rintro r w1 ⟨⟨hq, rfl⟩ | ⟨t', hq, rfl, g'⟩, fb1⟩
    ·have HQ := hide hq
     have FB1 := hide (FB.out.trans fb1)
     clear hq fb1
     go_wp2_with fail
     go_ret
     exact BrP.no hlt HU.out HQ.out rfl FB1.out
    ·have HQ : Hid (upto (n + 1) k e nx s = some t') := by show _ = _; unfold upto; rw [HU.out]; exact hq
     have FB1 := hide (FB.out.trans fb1)
     have G1 := hide g'
     clear hq fb1 g'
     go_wp2_with fail
     go_roundw
     case measure => simp [intOf]; omega
     case rel => exact ⟨n + 1, t', by omega, by simp, HQ.out, G1.out, FB1.out⟩
   ·have cf : wr.cell? ⟨B, n, none⟩ = some (.func (.func 117) #[.pointer (some ⟨R, 0, none⟩)] #[]) := by rw [q]; exact cell_of CB.out 4
    have CT : Hid (Calls Tryz.prog 117 #[.pointer (some ⟨R, 0, none⟩), .int .i64 (k : Int)] wr fun r w' => RP (rl n k e nx t) N R ev wr r w') := by
     show Calls _ _ _ _ _
     have g := HG.out
     have ea := EA.out
     have hu := HU.out
     rw [q] at hu ⊢
     rw [← HEV.out] at g ⊢
     rw [← HNX.out] at hu ⊢
     exact c4_any g ea HI.out HW.out B3.out HLL.out hu
    clear q
    go_wp2_with fail
    refine CT.out.mono ?_
    rintro r w1 ⟨⟨hq, rfl⟩ | ⟨t', hq, rfl, g'⟩, fb1⟩
    ·have HQ := hide hq
     have FB1 := hide (FB.out.trans fb1)
     clear hq fb1
     go_wp2_with fail
     go_ret
     exact BrP.no hlt HU.out HQ.out rfl FB1.out
    ·have HQ : Hid (upto (n + 1) k e nx s = some t') := by show _ = _; unfold upto; rw [HU.out]; exact hq
     have FB1 := hide (FB.out.trans fb1)
     have G1 := hide g'
     clear hq fb1 g'
     go_wp2_with fail
     go_roundw
     case measure => simp [intOf]; omega
     case rel => exact ⟨n + 1, t', by omega, by simp, HQ.out, G1.out, FB1.out⟩
   ·have cf : wr.cell? ⟨B, n, none⟩ = some (.func (.func 118) #[.pointer (some ⟨R, 0, none⟩)] #[]) := by rw [q]; exact cell_of CB.out 5
    have CT : Hid (Calls Tryz.prog 118 #[.pointer (some ⟨R, 0, none⟩), .int .i64 (k : Int)] wr fun r w' => RP (rl n k e nx t) N R ev wr r w') := by
     show Calls _ _ _ _ _
     have g := HG.out
     have ea := EA.out
     have hu := HU.out
     rw [q] at hu ⊢
     rw [← HEV.out] at g ⊢
     rw [← HNX.out] at hu ⊢
     exact c5_any g ea HI.out HW.out B3.out hu
    clear q
    go_wp2_with fail
    refine CT.out.mono ?_
    rintro r w1 ⟨⟨hq, rfl⟩ | ⟨t', hq, rfl, g'⟩, fb1⟩
    ·have HQ := hide hq
     have FB1 := hide (FB.out.trans fb1)
     clear hq fb1
     go_wp2_with fail
     go_ret
     exact BrP.no hlt HU.out HQ.out rfl FB1.out
    ·have HQ : Hid (upto (n + 1) k e nx s = some t') := by show _ = _; unfold upto; rw [HU.out]; exact hq
     have FB1 := hide (FB.out.trans fb1)
     have G1 := hide g'
     clear hq fb1 g'
     go_wp2_with fail
     go_roundw
     case measure => simp [intOf]; omega
     case rel => exact ⟨n + 1, t', by omega, by simp, HQ.out, G1.out, FB1.out⟩
  ·have hge : n = 6 := by omega
   have dl : decide ((n : Int) < 6) = false := by simp; omega
   have dl2 : decide (n < 6) = false := by simp; omega
   rw [hge] at HU
   clear hge hlt
   go_wp2_with fail
   go_ret
   exact BrP.yes HU.out HG.out FB.out
end Gu
end Go.Proofs.YtblfimobiibmjaaGreat
namespace Go.Proofs.YtblfimobiibmjaaGreat
open Go.ChangeShapes Go.WideShapes Go.ChangeAt Go.RowKit
namespace Gu
open En Ba
theorem put_few (L : List Int) (e : Ev) (nx : Option Ev) : (put L e nx).length ≤ L.length + 1 := by
 unfold put
 split
 ·simp
 ·split
  ·cases nx <;> simp
  ·simp
theorem ins_few (s : In) (c : Int) (e : Ev) (nx : Option Ev) : (ins s c e nx).L.length ≤ s.L.length + 1 := by
 unfold ins
 split
 ·exact Nat.le_succ _
 ·split
  ·have := put_few s.L e nx
   unfold mov
   split
   ·split
    ·rename_i v r hq
     rw [hq] at this
     simp at this ⊢
     omega
    ·simp
   ·exact this
  ·exact Nat.le_succ _
theorem inn_few (l : List Ev) (k : Nat) (c : Int) : (inn l k c).L.length ≤ k := by
 induction k with
 | zero => simp [inn, in0]
 | succ k ih =>
   unfold inn
   split
   ·exact Nat.le_trans (ins_few _ _ _ _) (by omega)
   ·omega
theorem IG.bn {l : List Ev} {k : Nat} {s : Gs} (I : IG l k s) (hk : k ≤ 2000) : Bn s 2900 := by
 have h1 : ∀ (p : Ev → Bool), (l.take k).countP p ≤ k := fun p => Nat.le_trans List.countP_le_length (by simp; omega)
 refine ⟨?_, ?_, fun j d hd => ?_⟩
 ·have := I.c.len
  have := h1 (fun x => decide (x.k = 1))
  unfold there at *
  omega
 ·have := I.m.len
  have := h1 (fun x => decide (x.k = 2))
  omega
 ·have hl : j < s.ch.length := (List.getElem?_eq_some_iff.1 hd).1
  have h2 := (I.m.at_ j hl).1
  rw [List.getD_eq_getElem?_getD, hd] at h2
  have h3 : d.vs = (inn l k (j : Int)).L := congrArg Chn.vs h2
  have := inn_few l k (j : Int)
  rw [h3]
  omega
theorem gw0 (w : World) (oa : Option Addr) (n c : Nat) : GW (((w.alloc (.cells #[.int .i64 0] 3)).alloc (.map #[] 0)).alloc (.cells #[.slice oa n c, .slice (some ⟨w.heap.size, 0, none⟩) 1 1, .map (some (w.heap.size + 1)), .bool false, .int .i64 0, .int .i64 0, .int .i64 0, .int .i64 0, .int .i64 0, .int .i64 0, .bool false, .bool false] 173)) w.heap.size (w.heap.size + 1 + 1) (.slice oa n c) gs0 := by
 have hR := heap_new ((w.alloc (.cells #[.int .i64 0] 3)).alloc (.map #[] 0)) (.cells #[.slice oa n c, .slice (some ⟨w.heap.size, 0, none⟩) 1 1, .map (some (w.heap.size + 1)), .bool false, .int .i64 0, .int .i64 0, .int .i64 0, .int .i64 0, .int .i64 0, .int .i64 0, .bool false, .bool false] 173)
 rw [World.size_alloc, World.size_alloc] at hR
 have hS := heap_below (heap_below (heap_new w (.cells #[.int .i64 0] 3)) (below_alloc _ (.map #[] 0))) (below_alloc _ (.cells #[.slice oa n c, .slice (some ⟨w.heap.size, 0, none⟩) 1 1, .map (some (w.heap.size + 1)), .bool false, .int .i64 0, .int .i64 0, .int .i64 0, .int .i64 0, .int .i64 0, .int .i64 0, .bool false, .bool false] 173))
 have hM := ((World.ownsMap_made (w.alloc (.cells #[.int .i64 0] 3)) Tryz.prog 3 mE).alloc (.cells #[.slice oa n c, .slice (some ⟨w.heap.size, 0, none⟩) 1 1, .map (some (w.heap.size + 1)), .bool false, .int .i64 0, .int .i64 0, .int .i64 0, .int .i64 0, .int .i64 0, .int .i64 0, .bool false, .bool false] 173)).mono (Nat.zero_le 100000)
 rw [World.size_alloc] at hM
 exact ⟨w.heap.size + 1, .slice (some ⟨w.heap.size, 0, none⟩) 1 1, .map [], [], ⟨by omega, by omega⟩, hR, ⟨rfl, .inr ⟨w.heap.size, 1, #[.int .i64 0], rfl, Nat.le_refl _, hS, Nat.le_refl _, by unfold maxLen; omega, by simp, by simp [ic, gs0]⟩⟩, hM, MI.nil, rfl, (fun i x c hx => by simp at hx), (fun i j x y hx => by simp at hx), (fun i x hx => by simp at hx)⟩
theorem hmf : ∀ (fn : Fn) (first cap : Array Value) (w : World), (Instr.makeFunc fn first cap).run Tryz.prog w = .ok (.func fn first cap) w := fun _ _ _ _ => rfl
set_option maxRecDepth 100000 in
set_option maxHeartbeats 6400000 in
theorem gcheck_any (oa : Option Addr) (l : List Ev) (c : Nat) (w : World) (hA : EsAt w oa l) (hl : l.length ≤ 2000) :
 Calls Tryz.prog 62 #[.slice oa l.length c] w fun r w' => (∃ n a, r = .returned (.tuple #[.int .i64 n, .int .i64 a]) ∧ Chk l n a) ∧ Below w.heap.size w w' := by
 have HA := hide hA
 have HL := hide hl
 have hmm := @run_makeMap Tryz.prog
 obtain ⟨M, hM⟩ : ∃ M, l.length = M := ⟨_, rfl⟩
 have HM := hide hM
 obtain ⟨ev, hev⟩ : ∃ ev, Value.slice oa l.length c = ev := ⟨_, rfl⟩
 have HEV := hide hev
 have G0 := hide (gw0 w oa l.length c)
 have B0 := hide (btr (btr (below_alloc w (.cells #[.int .i64 0] 3)) (below_alloc _ (.map #[] 0))) (below_alloc _ (.cells #[.slice oa l.length c, .slice (some ⟨w.heap.size, 0, none⟩) 1 1, .map (some (w.heap.size + 1)), .bool false, .int .i64 0, .int .i64 0, .int .i64 0, .int .i64 0, .int .i64 0, .int .i64 0, .bool false, .bool false] 173)))
 rw [hM] at hl G0 B0 ⊢
 clear hA hM hev
 go_enter Tryz.func62, Tryz.ntmps62
 go_upto_region 3 with fail
 clear hmm
 generalize ((w.alloc (.cells #[.int .i64 0] 3)).alloc (.map #[] 0)).alloc (.cells #[.slice oa M c, .slice (some ⟨w.heap.size, 0, none⟩) 1 1, .map (some (w.heap.size + 1)), .bool false, .int .i64 0, .int .i64 0, .int .i64 0, .int .i64 0, .int .i64 0, .int .i64 0, .bool false, .bool false] 173) = W0 at *
 obtain ⟨R, hR⟩ : ∃ R, w.heap.size + 1 + 1 = R := ⟨_, rfl⟩
 rw [hR] at G0 ⊢
 clear hR
 go_loopw [13] (fun i wr => ∃ (k : Nat) (s : Gs), k ≤ M ∧ i = .int .i64 (k : Int) ∧ IG l k s ∧ (∀ j, j < k → ∀ x, l[j]? = some x → ruleD l j x = 0) ∧ GW wr w.heap.size R (.slice oa M c) s ∧ Fb w.heap.size w wr) (fun i _ => M - (intOf i).toNat)
 case atStart => exact ⟨0, gs0, Nat.zero_le _, rfl, IG.nil l, fun j hj => absurd hj (Nat.not_lt_zero _), G0.out, Fb.of B0.out (Nat.le_refl _)⟩
 case round =>
  obtain ⟨k, s, hk, rfl, ig, hall, g, fb⟩ := hrel
  have IG0 := hide ig
  have ALL := hide hall
  have HG := hide g
  have FB := hide fb
  clear ig hall g fb G0 B0
  by_cases hlt : k < M
  ·have hlt' : (k : Int) < (M : Int) := by omega
   obtain ⟨e, he⟩ : ∃ e, l[k]? = some e := ⟨_, List.getElem?_eq_getElem (by rw [HM.out]; omega)⟩
   have HE := hide he
   have BN := hide (IG0.out.bn (by omega))
   have AL := below_alloc wr (.cells #[.func (.func 113) #[.pointer (some ⟨R, 0, none⟩)] #[], .func (.func 114) #[.pointer (some ⟨R, 0, none⟩)] #[], .func (.func 115) #[.pointer (some ⟨R, 0, none⟩)] #[], .func (.func 116) #[.pointer (some ⟨R, 0, none⟩)] #[], .func (.func 117) #[.pointer (some ⟨R, 0, none⟩)] #[], .func (.func 118) #[.pointer (some ⟨R, 0, none⟩)] #[]] 95)
   have FB1 := hide (FB.out.trans (Fb.of AL (by have := FB.out.size; omega)))
   have CT : Hid (Calls Tryz.prog 112 #[.int .i64 (k : Int), .slice (some ⟨wr.heap.size, 0, none⟩) 6 6] (wr.alloc (.cells #[.func (.func 113) #[.pointer (some ⟨R, 0, none⟩)] #[], .func (.func 114) #[.pointer (some ⟨R, 0, none⟩)] #[], .func (.func 115) #[.pointer (some ⟨R, 0, none⟩)] #[], .func (.func 116) #[.pointer (some ⟨R, 0, none⟩)] #[], .func (.func 117) #[.pointer (some ⟨R, 0, none⟩)] #[], .func (.func 118) #[.pointer (some ⟨R, 0, none⟩)] #[]] 95)) fun r w' => BrP k e l[k + 1]? s w.heap.size R (.slice oa M c) (wr.alloc (.cells #[.func (.func 113) #[.pointer (some ⟨R, 0, none⟩)] #[], .func (.func 114) #[.pointer (some ⟨R, 0, none⟩)] #[], .func (.func 115) #[.pointer (some ⟨R, 0, none⟩)] #[], .func (.func 116) #[.pointer (some ⟨R, 0, none⟩)] #[], .func (.func 117) #[.pointer (some ⟨R, 0, none⟩)] #[], .func (.func 118) #[.pointer (some ⟨R, 0, none⟩)] #[]] 95)) r w') := by
    show Calls _ _ _ _ _
    have g := HG.out
    rw [← HM.out] at g ⊢
    have hg : GW (wr.alloc (.cells #[.func (.func 113) #[.pointer (some ⟨R, 0, none⟩)] #[], .func (.func 114) #[.pointer (some ⟨R, 0, none⟩)] #[], .func (.func 115) #[.pointer (some ⟨R, 0, none⟩)] #[], .func (.func 116) #[.pointer (some ⟨R, 0, none⟩)] #[], .func (.func 117) #[.pointer (some ⟨R, 0, none⟩)] #[], .func (.func 118) #[.pointer (some ⟨R, 0, none⟩)] #[]] 95)) w.heap.size R (.slice oa l.length c) s := by obtain ⟨mb, vs, D, cs, g⟩ := g; exact ⟨mb, vs, D, cs, g.below AL⟩
    exact bro_any hg HA.out rfl FB1.out.b HE.out BN.out (by have := HL.out; omega) (heap_new wr (.cells #[.func (.func 113) #[.pointer (some ⟨R, 0, none⟩)] #[], .func (.func 114) #[.pointer (some ⟨R, 0, none⟩)] #[], .func (.func 115) #[.pointer (some ⟨R, 0, none⟩)] #[], .func (.func 116) #[.pointer (some ⟨R, 0, none⟩)] #[], .func (.func 117) #[.pointer (some ⟨R, 0, none⟩)] #[], .func (.func 118) #[.pointer (some ⟨R, 0, none⟩)] #[]] 95))
   clear AL he
   have mf := hmf
   go_wp2_with fail
   refine CT.out.mono ?_
   rintro r w1 ⟨⟨n, hst, rfl⟩ | ⟨s', hst, rfl, g1⟩, fb1⟩
   ·rcases stepG_is IG0.out HE.out with ⟨n', hn0, hrd, hq⟩ | ⟨-, t, hq, -⟩
    ·rw [hst] at hq
     injection hq with hq
     subst hq
     have dn : (n != 0) = true := by simp [hn0]
     have FIN : Hid (Chk l n (k : Int)) := .inl ⟨k, e, HE.out, by rw [hrd]; exact hn0, hrd.symm, rfl, ALL.out⟩
     have FB2 := hide (FB1.out.trans fb1)
     clear hst hn0 hrd fb1 mf
     go_wp2_with fail
     go_ret2
     exact ⟨⟨_, _, rfl, FIN.out⟩, FB2.out.b⟩
    ·rw [hst] at hq; cases hq
   ·rcases stepG_is IG0.out HE.out with ⟨n', hn0, hrd, hq⟩ | ⟨hrd, t, hq, ig'⟩
    ·rw [hst] at hq; cases hq
    ·rw [hst] at hq
     injection hq with hq
     subst hq
     have IG1 := hide ig'
     have G1 := hide g1
     have FB2 := hide (FB1.out.trans fb1)
     have AL1 : Hid (∀ j, j < k + 1 → ∀ x, l[j]? = some x → ruleD l j x = 0) := fun j hj x hx => by
      by_cases hjk : j = k
      ·subst hjk; rw [HE.out] at hx; cases hx; exact hrd
      ·exact ALL.out j (by omega) x hx
     clear hst hrd fb1 ig' g1 mf
     go_wp2_with fail
     go_roundw
     case measure => simp [intOf]; omega
     case rel => exact ⟨k + 1, s', by omega, by simp, IG1.out, AL1.out, G1.out, FB2.out⟩
  ·have hge : k = M := by omega
   have dl : decide ((k : Int) < (M : Int)) = false := by simp; omega
   have dl2 : decide (k < M) = false := by simp; omega
   have IG1 : Hid (IG l l.length s) := by show IG _ _ _; rw [HM.out, ← hge]; exact IG0.out
   have AL1 : Hid (∀ j x, l[j]? = some x → ruleD l j x = 0) := fun j x hx => ALL.out j (by have := (List.getElem?_eq_some_iff.1 hx).1; have := HM.out; omega) x hx
   have OW := hide (owed_any HG.out)
   have OI := hide IG1.out.owed
   obtain ⟨ow, how⟩ : ∃ ow, owed s.la = ow := ⟨_, rfl⟩
   rw [how] at OW OI
   clear hge how hlt
   go_wp2_with fail
   refine OW.out.mono ?_
   rintro r w1 ⟨rfl, rfl⟩
   cases ow
   ·have FIN : Hid (Chk l 0 0) := .inr ⟨AL1.out, by rw [← OI.out]; rfl⟩
    go_wp2_with fail
    go_ret2
    exact ⟨⟨_, _, rfl, FIN.out⟩, FB.out.b⟩
   ·have FIN : Hid (Chk l 4 (M : Int)) := .inr ⟨AL1.out, by rw [← OI.out, HM.out]; rfl⟩
    go_wp2_with fail
    go_ret2
    exact ⟨⟨_, _, rfl, FIN.out⟩, FB.out.b⟩
end Gu
end Go.Proofs.YtblfimobiibmjaaGreat
namespace Go.Proofs.YtblfimobiibmjaaGreat
open Go.ChangeShapes Go.WideShapes Go.ChangeAt Go.RowKit
namespace Eg
open En Gu Ba
open Classical in
noncomputable def tokB (l : List Ev) : Bool := decide (Tok l)
theorem tokB_iff {l : List Ev} : tokB l = true ↔ Tok l := by
 unfold tokB
 simp
theorem chk_tok {l : List Ev} {n a : Int} (h : Chk l n a) : (decide (n = 0) || decide (a = (l.length : Int))) = tokB l := by
 rcases h with ⟨i, e, he, hn, rfl, rfl, -⟩ | ⟨ha, hr⟩
 ·have hi : i < l.length := by
   rcases Nat.lt_or_ge i l.length with q | q
   ·exact q
   ·rw [List.getElem?_eq_none q] at he
    cases he
  have h1 : tokB l = false := by
   cases q : tokB l
   ·rfl
   ·exact absurd (tokB_iff.1 q i e he) hn
  rw [h1]
  simp [hn]
  omega
 ·have h1 : tokB l = true := tokB_iff.2 fun i e he => ha i e he
  rw [h1]
  split at hr <;> cases hr <;> simp
set_option maxRecDepth 100000 in
set_option maxHeartbeats 1600000 in
theorem istr_any (oa : Option Addr) (l : List Ev) (c : Nat) (w : World) (hA : EsAt w oa l) (hl : l.length ≤ 2000) :
 Calls Tryz.prog 33 #[.slice oa l.length c] w fun r w' => r = .returned (.bool (tokB l)) ∧ Below w.heap.size w w' := by
 have GC := hide (gcheck_any oa l c w hA hl)
 have CT := hide (fun n a (q : Chk l n a) => chk_tok q)
 obtain ⟨M, hM⟩ : ∃ M, l.length = M := ⟨_, rfl⟩
 rw [hM] at GC CT ⊢
 clear hA hM hl
 go_enter Tryz.func33, Tryz.ntmps33
 go_wp2_with fail
 refine GC.out.mono ?_
 rintro r w1 ⟨⟨n, a, rfl, hc⟩, b1⟩
 have T := hide (CT.out n a hc)
 have B1 := hide b1
 clear hc b1 GC CT
 by_cases h0 : n = 0
 ·have q0 : (n == 0) = true := by simp [h0]
  have T2 : Hid (true = tokB l) := by
   show true = tokB l
   rw [← T.out]; simp [h0]
  clear h0 T
  go_wp2_with fail
  go_ret
  exact ⟨by rw [← T2.out]; rfl, B1.out⟩
 ·have q0 : (n == 0) = false := by simp [h0]
  by_cases h1 : a = (M : Int)
  ·have q1 : (a == (M : Int)) = true := by simp [h1]
   have T2 : Hid (true = tokB l) := by
    show true = tokB l
    rw [← T.out]; simp [h1]
   clear h0 h1 T
   go_wp2_with fail
   go_ret
   exact ⟨by rw [← T2.out]; rfl, B1.out⟩
  ·have q1 : (a == (M : Int)) = false := by simp [h1]
   have T2 : Hid (false = tokB l) := by
    show false = tokB l
    rw [← T.out]; simp [h0, h1]
   clear h0 h1 T
   go_wp2_with fail
   go_ret
   exact ⟨by rw [← T2.out]; rfl, B1.out⟩
end Eg
end Go.Proofs.YtblfimobiibmjaaGreat
namespace Go.Proofs.YtblfimobiibmjaaGreat
open Go.ChangeShapes Go.WideShapes Go.ChangeAt Go.RowKit
namespace Eg
open En Gu Ba
end Eg
end Go.Proofs.YtblfimobiibmjaaGreat
namespace Go.Proofs.YtblfimobiibmjaaGreat
open Go.ChangeShapes Go.WideShapes Go.ChangeAt Go.RowKit
namespace Eg
open En Gu Ba
theorem size_deal : (Tryz.prog.info? 125).map (·.size) = some 2 := by kernel_rfl
theorem loadVar_deal {w : World} {b : Nat} {c : Array Value} {t : TypeId} (h : w.heap[b]? = some (.cells c t (0, 0))) (hc : c.size = 2) : (loadVar 125 ⟨b, 0, none⟩).run Tryz.prog w = .ok (.agg c) w :=
 run_loadVar_row w b t _ _ _ _ h Tryz.underlying125 rfl (by rw [size_deal, hc])
set_option maxRecDepth 100000 in
set_option maxHeartbeats 1600000 in
theorem dealAt_any (oa : Option Addr) (l : List Ev) (c i : Nat) (w : World) (hA : EsAt w oa l) (h : Tok l) (hi : i < l.length) (hl : l.length ≤ 2000) :
 Calls Tryz.prog 65 #[.slice oa l.length c, .int .i64 (i : Int)] w fun r w' => r = .returned (.agg #[.int .i64 (bg l i : Int), .int .i64 (i : Int)]) ∧ Below w.heap.size w w' := by
 have BG := hide (fun u (b : Below w.heap.size w u) => begins_any oa l c i u (hA.below b) h hi (by omega))
 obtain ⟨M, hM⟩ : ∃ M, l.length = M := ⟨_, rfl⟩
 obtain ⟨B, hB⟩ : ∃ B, (bg l i : Int) = B := ⟨_, rfl⟩
 rw [hM, hB] at BG
 rw [hM, hB]
 clear hA hM hl hB hi h
 go_enter Tryz.func65, Tryz.ntmps65
 go_wp2_with fail
 refine (BG.out _ (below_alloc _ _)).mono ?_
 rintro r w1 ⟨rfl, b1⟩
 have hn : w1.heap[w.heap.size]? = some (.cells #[.int .i64 0, .int .i64 0] 125) := (b1.block _ (by simp)).trans (heap_new w _)
 have n0 : w1.cell? ⟨w.heap.size, 0, none⟩ = some (.int .i64 0) := cell_of hn 0
 have n1 : w1.cell? ⟨w.heap.size, 1, none⟩ = some (.int .i64 0) := cell_of hn 1
 have f0 := frozen_of hn 0
 have f1 := frozen_of hn 1
 have E1 : Hid (((w1.setCell ⟨w.heap.size, 0, none⟩ (.int .i64 B)).setCell ⟨w.heap.size, 1, none⟩ (.int .i64 (i : Int))).heap[w.heap.size]? = some (.cells #[.int .i64 B, .int .i64 (i : Int)] 125 (0, 0))) := Ba.heap_setCell_same (Ba.heap_setCell_same hn _) _
 have K1 := hide (((KB.refl w.heap.size w1).setCell 0 (.int .i64 B)).setCell 1 (.int .i64 (i : Int)))
 have B1 := hide (btr (below_alloc w _) b1)
 clear b1 hn
 go_wp2_with fail
 exact bodyPost_ret (En.results_row1 Tryz.results65 _ _ _ _ rfl (loadVar_deal E1.out rfl)) rfl ⟨rfl, KB.below B1.out K1.out (Nat.le_refl _)⟩
end Eg
end Go.Proofs.YtblfimobiibmjaaGreat
namespace Go.Proofs.YtblfimobiibmjaaGreat
open Go.ChangeShapes Go.WideShapes Go.ChangeAt Go.RowKit
namespace Eg
open En Gu Ba
set_option maxRecDepth 100000 in
set_option maxHeartbeats 1600000 in
theorem service_none (oa : Option Addr) (l : List Ev) (c i : Nat) (e : Ev) (w : World) (hA : EsAt w oa l) (he : l[i]? = some e) (hl : l.length ≤ 2000) (hs : e.m = -1 ∨ i + 1 = l.length) :
 Calls Tryz.prog 66 #[.slice oa l.length c, .int .i64 (i : Int)] w fun r w' => r = .returned (.slice none 0 0) ∧ Below w.heap.size w w' := by
 obtain ⟨b, off, rfl, -⟩ := hA i e he
 obtain ⟨z0, z1, z2, z3, z4, z5, z6, z7⟩ := hA.read he
 have hi : i < l.length := by
  rcases Nat.lt_or_ge i l.length with q | q
  ·exact q
  ·rw [List.getElem?_eq_none q] at he
   cases he
 have i0 : (0 : Int) ≤ (i : Int) := by omega
 have i1 : (i : Int) < (l.length : Int) := by omega
 by_cases hm : e.m = -1
 ·have d0 : (e.m == -1) = true := by simp [hm]
  clear hm hs hA he
  go_enter Tryz.func66, Tryz.ntmps66
  go_wp2_with fail
  go_ret
  exact ⟨rfl, Below.refl _ _⟩
 ·have hx : i + 1 = l.length := by
   rcases hs with q | q
   ·exact absurd q hm
   ·exact q
  have d0 : (e.m == -1) = false := by simp [hm]
  have d1 : ((i : Int) + 1 == (l.length : Int)) = true := by simp; omega
  have hl2 : (i : Int) + 1 < 2001 := by omega
  clear hm hs hA he hx
  go_enter Tryz.func66, Tryz.ntmps66
  go_wp2_with fail
  go_ret
  exact ⟨rfl, Below.refl _ _⟩
set_option maxRecDepth 100000 in
set_option maxHeartbeats 1600000 in
theorem service_one (oa : Option Addr) (l : List Ev) (c i : Nat) (e : Ev) (w : World) (hA : EsAt w oa l) (h : Tok l) (he : l[i]? = some e) (hl : l.length ≤ 2000) (hm : e.m ≠ -1) (hx : i + 1 < l.length) :
 Calls Tryz.prog 66 #[.slice oa l.length c, .int .i64 (i : Int)] w fun r w' => (∃ g, r = .returned (.slice (some ⟨g, 0, none⟩) 1 1) ∧ w.heap.size ≤ g ∧ w'.heap[g]? = some (.cells #[.int .i64 (bg l (i + 1) : Int), .int .i64 ((i + 1 : Nat) : Int)] 125)) ∧ Below w.heap.size w w' := by
 obtain ⟨b, off, rfl, -⟩ := hA i e he
 obtain ⟨z0, z1, z2, z3, z4, z5, z6, z7⟩ := hA.read he
 have DA := hide (fun u (b : Below w.heap.size w u) => dealAt_any _ l c (i + 1) u (hA.below b) h hx hl)
 rw [show ((i + 1 : Nat) : Int) = (i : Int) + 1 by omega] at DA
 have d0 : (e.m == -1) = false := by simp [hm]
 have i0 : (0 : Int) ≤ (i : Int) := by omega
 have i1 : (i : Int) < (l.length : Int) := by omega
 have d1 : ((i : Int) + 1 == (l.length : Int)) = false := by simp; omega
 have hl2 : (i : Int) + 1 < 2001 := by omega
 clear hm hA he hx h
 go_enter Tryz.func66, Tryz.ntmps66
 go_wp2_with fail
 refine (DA.out _ (Below.refl _ _)).mono ?_
 rintro r w1 ⟨rfl, b1⟩
 go_wp2_with fail
 go_ret
 exact ⟨⟨w1.heap.size, rfl, b1.size, by rw [heap_new, show ((i + 1 : Nat) : Int) = (i : Int) + 1 by omega]⟩, btr b1 (below_alloc _ _)⟩
end Eg
end Go.Proofs.YtblfimobiibmjaaGreat
namespace Go.Proofs.YtblfimobiibmjaaGreat
open Go.ChangeShapes Go.WideShapes Go.ChangeAt Go.RowKit
namespace Gu
open En Ba
theorem num_any (e : Ev) (w : World) : Calls Tryz.prog 91 #[evv e] w fun r w' => r = .returned (.tuple #[.int .i64 e.m, .bool (e.k == 1)]) ∧ Below w.heap.size w w' := by
 have B1 := hide (btr (below_alloc w (.cells #[.int .i64 e.k, .int .i64 e.g, .int .i64 e.c, .int .i64 e.a, .int .i64 e.v, .int .i64 e.m, .bool e.s, .bool e.o] 50)) (bdrew1 _))
 have E1 := heap_new w (.cells #[.int .i64 e.k, .int .i64 e.g, .int .i64 e.c, .int .i64 e.a, .int .i64 e.v, .int .i64 e.m, .bool e.s, .bool e.o] 50)
 have v0 : (w.alloc (.cells #[.int .i64 e.k, .int .i64 e.g, .int .i64 e.c, .int .i64 e.a, .int .i64 e.v, .int .i64 e.m, .bool e.s, .bool e.o] 50)).drew.cell? ⟨w.heap.size, 0, none⟩ = some (.int .i64 e.k) := cell_of E1 0
 have v5 : (w.alloc (.cells #[.int .i64 e.k, .int .i64 e.g, .int .i64 e.c, .int .i64 e.a, .int .i64 e.v, .int .i64 e.m, .bool e.s, .bool e.o] 50)).drew.cell? ⟨w.heap.size, 5, none⟩ = some (.int .i64 e.m) := cell_of E1 5
 clear E1
 unfold evv evc
 go_enter Tryz.func91, Tryz.ntmps91
 go_wp2_with fail
 generalize w.alloc (.cells #[.int .i64 e.k, .int .i64 e.g, .int .i64 e.c, .int .i64 e.a, .int .i64 e.v, .int .i64 e.m, .bool e.s, .bool e.o] 50) = W1 at *
 go_region
 all_goals
  go_wp2_with fail
  go_ret2
  exact ⟨rfl, B1.out⟩
end Gu
end Go.Proofs.YtblfimobiibmjaaGreat
namespace Go.Proofs.YtblfimobiibmjaaGreat
namespace Gc
open En
def cntS (p : Ev → Bool) (f : Ev → Int) (a : Int) (e : Ev) : Int := if p e = true ∧ f e < 1099511627776 then max a (f e + 1) else a
def cntF (p : Ev → Bool) (f : Ev → Int) (l : List Ev) : Int := l.foldl (cntS p f) 0
theorem cntF_app (p : Ev → Bool) (f : Ev → Int) (l : List Ev) (e : Ev) : cntF p f (l ++ [e]) = cntS p f (cntF p f l) e := by simp [cntF]
theorem cntF_take (p : Ev → Bool) (f : Ev → Int) (l : List Ev) (k : Nat) (e : Ev) (h : l[k]? = some e) : cntF p f (l.take (k + 1)) = cntS p f (cntF p f (l.take k)) e := by
 have hk := (List.getElem?_eq_some_iff.1 h).1
 have he := (List.getElem?_eq_some_iff.1 h).2
 rw [List.take_succ_eq_append_getElem hk, cntF_app, he]
theorem cntS_rng (p : Ev → Bool) (f : Ev → Int) (a : Int) (e : Ev) (h : 0 ≤ a ∧ a ≤ 1099511627776) : 0 ≤ cntS p f a e ∧ cntS p f a e ≤ 1099511627776 := by
 unfold cntS
 split <;> omega
theorem cnt_rng (p : Ev → Bool) (f : Ev → Int) : ∀ (l : List Ev) (a : Int), 0 ≤ a ∧ a ≤ 1099511627776 → 0 ≤ l.foldl (cntS p f) a ∧ l.foldl (cntS p f) a ≤ 1099511627776
 | [], _, h => h
 | e :: l, a, h => cnt_rng p f l _ (cntS_rng p f a e h)
theorem cntF_rng (p : Ev → Bool) (f : Ev → Int) (l : List Ev) : 0 ≤ cntF p f l ∧ cntF p f l ≤ 1099511627776 := cnt_rng p f l 0 (by omega)
theorem cnt_fun (p : Ev → Bool) (f : Ev → Int) (l : List Ev) : ∃ F : Nat → Int, F 0 = 0 ∧ F l.length = cntF p f l ∧ (∀ k, 0 ≤ F k ∧ F k ≤ 1099511627776) ∧ ∀ k e, l[k]? = some e → F (k + 1) = if p e = true ∧ f e < 1099511627776 then max (F k) (f e + 1) else F k :=
 ⟨fun k => cntF p f (l.take k), rfl, by simp, fun k => cntF_rng p f _, fun k e h => cntF_take p f l k e h⟩
end Gc
end Go.Proofs.YtblfimobiibmjaaGreat
namespace Go.Proofs.YtblfimobiibmjaaGreat
open Go.ChangeShapes Go.WideShapes Go.ChangeAt Go.RowKit
namespace Gu
open En Ba
theorem chn_any (e : Ev) (w : World) : Calls Tryz.prog 120 #[evv e] w fun r w' => r = .returned (.tuple #[.int .i64 e.c, .bool (e.k == 2)]) ∧ Below w.heap.size w w' := by
 have B1 := hide (btr (below_alloc w (.cells #[.int .i64 e.k, .int .i64 e.g, .int .i64 e.c, .int .i64 e.a, .int .i64 e.v, .int .i64 e.m, .bool e.s, .bool e.o] 50)) (bdrew1 _))
 have E1 := heap_new w (.cells #[.int .i64 e.k, .int .i64 e.g, .int .i64 e.c, .int .i64 e.a, .int .i64 e.v, .int .i64 e.m, .bool e.s, .bool e.o] 50)
 have v0 : (w.alloc (.cells #[.int .i64 e.k, .int .i64 e.g, .int .i64 e.c, .int .i64 e.a, .int .i64 e.v, .int .i64 e.m, .bool e.s, .bool e.o] 50)).drew.cell? ⟨w.heap.size, 0, none⟩ = some (.int .i64 e.k) := cell_of E1 0
 have v2 : (w.alloc (.cells #[.int .i64 e.k, .int .i64 e.g, .int .i64 e.c, .int .i64 e.a, .int .i64 e.v, .int .i64 e.m, .bool e.s, .bool e.o] 50)).drew.cell? ⟨w.heap.size, 2, none⟩ = some (.int .i64 e.c) := cell_of E1 2
 clear E1
 unfold evv evc
 go_enter Tryz.func120, Tryz.ntmps120
 go_wp2_with fail
 generalize w.alloc (.cells #[.int .i64 e.k, .int .i64 e.g, .int .i64 e.c, .int .i64 e.a, .int .i64 e.v, .int .i64 e.m, .bool e.s, .bool e.o] 50) = W1 at *
 go_region
 all_goals
  go_wp2_with fail
  go_ret2
  exact ⟨rfl, B1.out⟩
theorem run_max_int (u : World) (ty : TypeId) (a b : Int) : (Builtin.max_ #[3, 3] ty #[.int .i64 a, .int .i64 b]).run Tryz.prog u = .ok (.int .i64 (max a b)) u := by
 have e : max a b = if b > a then b else a := by split <;> omega
 rw [e]
 simp [Builtin.max_, Builtin.max2]
set_option maxHeartbeats 3200000 in
theorem cnt_g (oa : Option Addr) (l : List Ev) (c : Nat) (w : World) (hA : EsAt w oa l) (hl : l.length ≤ 100000) (hw : ∀ (i : Nat) e, l[i]? = some e → e.k = 1 → -9223372036854775808 ≤ e.m) :
 Calls Tryz.prog 90 #[.slice oa l.length c, .func (.func 91) #[] #[]] w fun r w' => r = .returned (.int .i64 (Gc.cntF (fun e => e.k == 1) (fun e => e.m) l)) ∧ Below w.heap.size w w' := by
 have HA := hide hA
 have HW := hide hw
 obtain ⟨F, F0, FM, FR, FS⟩ := Gc.cnt_fun (fun e => e.k == 1) (fun e => e.m) l
 have HF := hide (And.intro F0 (And.intro FR FS))
 rw [← FM]
 obtain ⟨M, hM⟩ : ∃ M, l.length = M := ⟨_, rfl⟩
 have HM := hide hM
 rw [hM] at hl ⊢
 clear hA hw hM F0 FM FR FS
 go_enter Tryz.func90, Tryz.ntmps90
 go_wp2_with fail
 go_loopw [5, 12] (fun m i wr => ∃ k : Nat, k ≤ M ∧ m = .int .i64 (F k) ∧ i = .int .i64 (k : Int) ∧ Below w.heap.size w wr) (fun _ i _ => M - (intOf i).toNat)
 case atStart => exact ⟨0, Nat.zero_le _, by rw [HF.out.1], rfl, Below.refl _ _⟩
 case round =>
  obtain ⟨k, hkM, rfl, rfl, bl⟩ := hrel
  have BL := hide bl
  have EA := hide (HA.out.below bl)
  clear bl
  by_cases hlt : k < M
  ·have hlt' : (k : Int) < (M : Int) := by omega
   obtain ⟨e, he⟩ : ∃ e, l[k]? = some e := ⟨_, List.getElem?_eq_getElem (by rw [HM.out]; omega)⟩
   obtain ⟨b1, o1, rfl, -⟩ := EA.out k e he
   obtain ⟨p0, p1, p2, p3, p4, p5, p6, p7⟩ := EA.out.read he
   have HWE := hide (HW.out k e he)
   have FS := hide (HF.out.2.2 k e he)
   have hr := HF.out.2.1 k
   have CN := hide (num_any e (wr.alloc (.cells #[.int .i64 e.k, .int .i64 e.g, .int .i64 e.c, .int .i64 e.a, .int .i64 e.v, .int .i64 e.m, .bool e.s, .bool e.o] 50)))
   unfold evv evc at CN
   have BA := hide (btr BL.out (below_alloc wr (.cells #[.int .i64 e.k, .int .i64 e.g, .int .i64 e.c, .int .i64 e.a, .int .i64 e.v, .int .i64 e.m, .bool e.s, .bool e.o] 50)))
   clear he
   have KK : Hid (∀ (v : Value) (w1 : World), v = .int .i64 (F (k + 1)) → Below w.heap.size w w1 → ∃ k' : Nat, k' ≤ M ∧ v = .int .i64 (F k') ∧ Value.int .i64 ((k : Int) + 1) = .int .i64 (k' : Int) ∧ Below w.heap.size w w1) := fun v w1 hv hb => ⟨k + 1, by omega, hv, by simp, hb⟩
   generalize F (k + 1) = f1 at *
   generalize F k = f0 at *
   by_cases hk1 : e.k = 1
   ·have d1 : (e.k == 1) = true := by simp [hk1]
    rw [d1] at CN
    by_cases hm : e.m < 1099511627776
    ·have d2 : decide (e.m < 1099511627776) = true := decide_eq_true hm
     have hf : f1 = max f0 (e.m + 1) := by rw [FS.out, if_pos ⟨d1, hm⟩]
     have hmx : ∀ (ty : TypeId) (u : World), (Builtin.max_ #[3, 3] ty #[.int .i64 f0, .int .i64 (e.m + 1)]).run Tryz.prog u = .ok (.int .i64 f1) u := fun ty u => by rw [hf]; exact run_max_int u ty f0 (e.m + 1)
     have hwe := HWE.out hk1
     have hwr : IntKind.i64.wrap (e.m + 1) = e.m + 1 := by rw [IntKind.wrap_i64]; omega
     clear hk1 hm hf FS
     go_wp2_with fail
     refine CN.out.mono ?_
     rintro r w1 ⟨rfl, b2⟩
     have B2 := hide (btr BA.out b2)
     clear b2
     go_wp2_with fail
     go_roundw
     case measure => simp [intOf]; omega
     case rel => exact KK.out _ _ rfl B2.out
    ·have d2 : decide (e.m < 1099511627776) = false := decide_eq_false hm
     have hf : f1 = f0 := by rw [FS.out, if_neg (fun q => hm q.2)]
     subst hf
     clear hk1 hm FS
     go_wp2_with fail
     refine CN.out.mono ?_
     rintro r w1 ⟨rfl, b2⟩
     have B2 := hide (btr BA.out b2)
     clear b2
     go_wp2_with fail
     go_roundw
     case measure => simp [intOf]; omega
     case rel => exact KK.out _ _ rfl B2.out
   ·have d1 : (e.k == 1) = false := by simp [hk1]
    rw [d1] at CN
    have hf : f1 = f0 := by rw [FS.out, if_neg (fun q => by have := q.1; simp [hk1] at this)]
    subst hf
    clear hk1 FS
    go_wp2_with fail
    refine CN.out.mono ?_
    rintro r w1 ⟨rfl, b2⟩
    have B2 := hide (btr BA.out b2)
    clear b2
    go_wp2_with fail
    go_roundw
    case measure => simp [intOf]; omega
    case rel => exact KK.out _ _ rfl B2.out
  ·have dl : decide ((k : Int) < (M : Int)) = false := by simp; omega
   have dl2 : decide (k < M) = false := by simp; omega
   have hk : k = M := by omega
   subst hk
   clear hlt
   go_wp2_with fail
   go_ret
   exact ⟨rfl, BL.out⟩
set_option maxHeartbeats 3200000 in
theorem cnt_c (oa : Option Addr) (l : List Ev) (c : Nat) (w : World) (hA : EsAt w oa l) (hl : l.length ≤ 100000) (hw : ∀ (i : Nat) e, l[i]? = some e → e.k = 2 → -9223372036854775808 ≤ e.c) :
 Calls Tryz.prog 90 #[.slice oa l.length c, .func (.func 120) #[] #[]] w fun r w' => r = .returned (.int .i64 (Gc.cntF (fun e => e.k == 2) (fun e => e.c) l)) ∧ Below w.heap.size w w' := by
 have HA := hide hA
 have HW := hide hw
 obtain ⟨F, F0, FM, FR, FS⟩ := Gc.cnt_fun (fun e => e.k == 2) (fun e => e.c) l
 have HF := hide (And.intro F0 (And.intro FR FS))
 rw [← FM]
 obtain ⟨M, hM⟩ : ∃ M, l.length = M := ⟨_, rfl⟩
 have HM := hide hM
 rw [hM] at hl ⊢
 clear hA hw hM F0 FM FR FS
 go_enter Tryz.func90, Tryz.ntmps90
 go_wp2_with fail
 go_loopw [5, 12] (fun m i wr => ∃ k : Nat, k ≤ M ∧ m = .int .i64 (F k) ∧ i = .int .i64 (k : Int) ∧ Below w.heap.size w wr) (fun _ i _ => M - (intOf i).toNat)
 case atStart => exact ⟨0, Nat.zero_le _, by rw [HF.out.1], rfl, Below.refl _ _⟩
 case round =>
  obtain ⟨k, hkM, rfl, rfl, bl⟩ := hrel
  have BL := hide bl
  have EA := hide (HA.out.below bl)
  clear bl
  by_cases hlt : k < M
  ·have hlt' : (k : Int) < (M : Int) := by omega
   obtain ⟨e, he⟩ : ∃ e, l[k]? = some e := ⟨_, List.getElem?_eq_getElem (by rw [HM.out]; omega)⟩
   obtain ⟨b1, o1, rfl, -⟩ := EA.out k e he
   obtain ⟨p0, p1, p2, p3, p4, p5, p6, p7⟩ := EA.out.read he
   have HWE := hide (HW.out k e he)
   have FS := hide (HF.out.2.2 k e he)
   have hr := HF.out.2.1 k
   have CN := hide (chn_any e (wr.alloc (.cells #[.int .i64 e.k, .int .i64 e.g, .int .i64 e.c, .int .i64 e.a, .int .i64 e.v, .int .i64 e.m, .bool e.s, .bool e.o] 50)))
   unfold evv evc at CN
   have BA := hide (btr BL.out (below_alloc wr (.cells #[.int .i64 e.k, .int .i64 e.g, .int .i64 e.c, .int .i64 e.a, .int .i64 e.v, .int .i64 e.m, .bool e.s, .bool e.o] 50)))
   clear he
   have KK : Hid (∀ (v : Value) (w1 : World), v = .int .i64 (F (k + 1)) → Below w.heap.size w w1 → ∃ k' : Nat, k' ≤ M ∧ v = .int .i64 (F k') ∧ Value.int .i64 ((k : Int) + 1) = .int .i64 (k' : Int) ∧ Below w.heap.size w w1) := fun v w1 hv hb => ⟨k + 1, by omega, hv, by simp, hb⟩
   generalize F (k + 1) = f1 at *
   generalize F k = f0 at *
   by_cases hk1 : e.k = 2
   ·have d1 : (e.k == 2) = true := by simp [hk1]
    rw [d1] at CN
    by_cases hm : e.c < 1099511627776
    ·have d2 : decide (e.c < 1099511627776) = true := decide_eq_true hm
     have hf : f1 = max f0 (e.c + 1) := by rw [FS.out, if_pos ⟨d1, hm⟩]
     have hmx : ∀ (ty : TypeId) (u : World), (Builtin.max_ #[3, 3] ty #[.int .i64 f0, .int .i64 (e.c + 1)]).run Tryz.prog u = .ok (.int .i64 f1) u := fun ty u => by rw [hf]; exact run_max_int u ty f0 (e.c + 1)
     have hwe := HWE.out hk1
     have hwr : IntKind.i64.wrap (e.c + 1) = e.c + 1 := by rw [IntKind.wrap_i64]; omega
     clear hk1 hm hf FS
     go_wp2_with fail
     refine CN.out.mono ?_
     rintro r w1 ⟨rfl, b2⟩
     have B2 := hide (btr BA.out b2)
     clear b2
     go_wp2_with fail
     go_roundw
     case measure => simp [intOf]; omega
     case rel => exact KK.out _ _ rfl B2.out
    ·have d2 : decide (e.c < 1099511627776) = false := decide_eq_false hm
     have hf : f1 = f0 := by rw [FS.out, if_neg (fun q => hm q.2)]
     subst hf
     clear hk1 hm FS
     go_wp2_with fail
     refine CN.out.mono ?_
     rintro r w1 ⟨rfl, b2⟩
     have B2 := hide (btr BA.out b2)
     clear b2
     go_wp2_with fail
     go_roundw
     case measure => simp [intOf]; omega
     case rel => exact KK.out _ _ rfl B2.out
   ·have d1 : (e.k == 2) = false := by simp [hk1]
    rw [d1] at CN
    have hf : f1 = f0 := by rw [FS.out, if_neg (fun q => by have := q.1; simp [hk1] at this)]
    subst hf
    clear hk1 FS
    go_wp2_with fail
    refine CN.out.mono ?_
    rintro r w1 ⟨rfl, b2⟩
    have B2 := hide (btr BA.out b2)
    clear b2
    go_wp2_with fail
    go_roundw
    case measure => simp [intOf]; omega
    case rel => exact KK.out _ _ rfl B2.out
  ·have dl : decide ((k : Int) < (M : Int)) = false := by simp; omega
   have dl2 : decide (k < M) = false := by simp; omega
   have hk : k = M := by omega
   subst hk
   clear hlt
   go_wp2_with fail
   go_ret
   exact ⟨rfl, BL.out⟩
theorem gors_any (oa : Option Addr) (l : List Ev) (c : Nat) (w : World) (hA : EsAt w oa l) (hl : l.length ≤ 100000) (hw : ∀ (i : Nat) e, l[i]? = some e → e.k = 1 → -9223372036854775808 ≤ e.m) :
 Calls Tryz.prog 56 #[.slice oa l.length c] w fun r w' => r = .returned (.int .i64 (max 1 (Gc.cntF (fun e => e.k == 1) (fun e => e.m) l))) ∧ Below w.heap.size w w' := by
 have CN := hide (cnt_g oa l c w hA hl hw)
 generalize Gc.cntF (fun e => e.k == 1) (fun e => e.m) l = m at *
 have hmx : ∀ (ty : TypeId) (u : World), (Builtin.max_ #[3, 3] ty #[.int .i64 1, .int .i64 m]).run Tryz.prog u = .ok (.int .i64 (max 1 m)) u := fun ty u => run_max_int u ty 1 m
 generalize max 1 m = mm at *
 generalize l.length = M at *
 clear hA hw
 go_enter Tryz.func56, Tryz.ntmps56
 go_wp2_with fail
 refine CN.out.mono ?_
 rintro r w1 ⟨rfl, b2⟩
 go_wp2_with fail
 go_ret
 exact ⟨rfl, b2⟩
theorem chans_any (oa : Option Addr) (l : List Ev) (c : Nat) (w : World) (hA : EsAt w oa l) (hl : l.length ≤ 100000) (hw : ∀ (i : Nat) e, l[i]? = some e → e.k = 2 → -9223372036854775808 ≤ e.c) :
 Calls Tryz.prog 64 #[.slice oa l.length c] w fun r w' => r = .returned (.int .i64 (max 0 (Gc.cntF (fun e => e.k == 2) (fun e => e.c) l))) ∧ Below w.heap.size w w' := by
 have CN := hide (cnt_c oa l c w hA hl hw)
 generalize Gc.cntF (fun e => e.k == 2) (fun e => e.c) l = m at *
 have hmx : ∀ (ty : TypeId) (u : World), (Builtin.max_ #[3, 3] ty #[.int .i64 0, .int .i64 m]).run Tryz.prog u = .ok (.int .i64 (max 0 m)) u := fun ty u => run_max_int u ty 0 m
 generalize max 0 m = mm at *
 generalize l.length = M at *
 clear hA hw
 go_enter Tryz.func64, Tryz.ntmps64
 go_wp2_with fail
 refine CN.out.mono ?_
 rintro r w1 ⟨rfl, b2⟩
 go_wp2_with fail
 go_ret
 exact ⟨rfl, b2⟩
end Gu
end Go.Proofs.YtblfimobiibmjaaGreat
namespace Go.Proofs.YtblfimobiibmjaaGreat
open Go.ChangeShapes Go.WideShapes Go.ChangeAt Go.RowKit
namespace Ba
theorem run_mkG {t e : TypeId} {i : TypeInfo} {z : Value} (ht : Tryz.prog.underlying t = some (.slice e)) (hi : Tryz.prog.info? e = some i) (hz : i.zero = some z) (w : World) (n : Nat) (hb : n * i.bytes ≤ 1000000000) (hn : n ≤ 1000000000) :
 (Instr.makeSlice t (.int .i64 (n : Int)) (.int .i64 (n : Int))).run Tryz.prog w = .ok (.slice (some ⟨w.heap.size, 0, none⟩) n n) (w.alloc (.cells (madeCells z.cells (n * i.size)) e)) := by
 have := run_make (P := Tryz.prog) w t e i z ht hi hz .i64 .i64 n n (by omega) (Int.le_refl _) (by rw [← Int.natCast_mul, Nat.mul_comm]; omega) (by omega)
 rw [Int.toNat_natCast] at this
 exact this
end Ba
end Go.Proofs.YtblfimobiibmjaaGreat
