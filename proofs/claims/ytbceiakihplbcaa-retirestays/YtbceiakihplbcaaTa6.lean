/- Layer 20's laws, over this seat's program: all. -/
import Derived.Test.YtbceiakihplbcaaTa5
import Derived.Test.YtbceiakihplbcaaBu
import Derived.Deep.Cut
namespace Go.Proofs.Ytbceiakihplbcaa
open Go.ChangeShapes Go.WideShapes Go.ChangeAt Go.RowKit
namespace Rt
open Ck

/-- a list among lists -/
def LE (w : World) (cs : List Value) (z : List Int) : Prop := ∃ ob cap, cs = [.slice ob z.length cap] ∧ Ck.At w ob z ∧ z.length ≤ cap ∧ cap ≤ maxLen
theorem LE.below {w w' : World} (hb : Below w.heap.size w w') {cs : List Value} {z : List Int} (h : LE w cs z) : LE w' cs z := by
  obtain ⟨oa, cap, h1, h2, h3⟩ := h
  exact ⟨oa, cap, h1, h2.below hb, h3⟩
/-- which lists are clocks -/
noncomputable def gd (x : List Int) : Bool := @decide (x.length ≤ 256 ∧ Valid x) (Classical.propDecidable _)
theorem gd_yes {x : List Int} (h : x.length ≤ 256 ∧ Valid x) : gd x = true := by unfold gd; exact @decide_eq_true _ (Classical.propDecidable _) h
theorem gd_no {x : List Int} (h : ¬ (x.length ≤ 256 ∧ Valid x)) : gd x = false := by unfold gd; exact @decide_eq_false _ (Classical.propDecidable _) h
noncomputable def lsF (l : List (List Int)) : List (List Int) := (l.filter gd).map trm
theorem lsF_take {l : List (List Int)} {k : Nat} {x : List Int} (h : l[k]? = some x) : lsF (l.take (k + 1)) = lsF (l.take k) ++ (if gd x = true then [trm x] else []) := by
  have hk : k < l.length := (List.getElem?_eq_some_iff.1 h).1
  have e : l.take (k + 1) = l.take k ++ [x] := by
    rw [List.take_succ_eq_append_getElem hk, (List.getElem?_eq_some_iff.1 h).2]
  unfold lsF
  rw [e, List.filter_append, List.map_append]
  cases hg : gd x <;> simp [hg]
theorem nth_trmF (x : List Int) : nth (trm x) = nth x := by funext k; exact nth_trm x k
theorem lsF_len (l : List (List Int)) : (lsF l).length ≤ l.length := by
  unfold lsF; rw [List.length_map]; exact List.length_filter_le _ _
theorem own_sl3 {w : World} {b : Nat} {e : TypeId} {sz : Nat} {v : Value} {n : Nat} {xs : List Value} (h : w.ownsRow b e sz v n xs) : ∃ oa m c, v = .slice oa m c := by
  rcases h.2 with ⟨rfl, -⟩ | ⟨g, cap, cr, rfl, -⟩
  · exact ⟨none, 0, 0, rfl⟩
  · exact ⟨_, _, _, rfl⟩
theorem valid_trm {l : List Int} (h : Valid l) : Valid (trm l) := by
  intro k hk
  rw [nth_trm]
  by_cases e : k < l.length
  · exact h k e
  · rw [nth_out l k (by omega)]; rfl
/-- what all gives -/
structure AllR (Y : Nat → Prop) (w w' : World) (Ls : List (List Int)) (vC vW : Value) (h0 : Nat → Option (List Int)) (ks : List (Nat × List Int)) (h : Nat → Option (List Int)) : Prop where
  hk : ks.map Prod.snd = Ls
  oc : w'.ownsRow (w.heap.size + 2) 48 1 vC ks.length (pts ks)
  ow : w'.ownsRow (w.heap.size + 2) 35 256 vW ks.length (rcs (Ls.map nth))
  dw : ∀ g, vC.ownBlock = some g → vW.ownBlock ≠ some g
  cx : Cx (fun k => Y k ∨ vC.ownBlock = some k ∨ vW.ownBlock = some k) w' (hx h)
  dom : ∀ z ∈ ks, h z.1 = some z.2
  ex : Ext h0 h
  bl : Below w.heap.size w w'
theorem cell_ra (w : World) (F : Nat → Int) (t : TypeId) : ∀ j u, (rcs [F])[j]? = some u → (w.alloc (.cells (ra F) t)).cell? ((⟨w.heap.size, 0, none⟩ : Addr).add j) = some u := by
  intro j u hj
  rw [rcs_one, Array.getElem?_toList] at hj
  rw [Addr.add_lit, Nat.zero_add]
  have hb : (w.alloc (.cells (ra F) t)).heap[w.heap.size]? = some (.cells (ra F) t (0, 0)) := heap_new _ _
  rw [cell_of hb]
  exact hj
theorem one_pt (b : Nat) : ∀ u ∈ [pt b], u.oneCell' = true := by
  intro u hu
  rw [List.mem_singleton] at hu
  rw [hu]; rfl
theorem loadVar_bot {w : World} {b : Nat} {c : Array Value} {t : TypeId} (h : w.heap[b]? = some (.cells c t (0, 0))) (hc : c.size = 2) : (loadVar 28 ⟨b, 0, none⟩).run Try.prog w = .ok (.agg c) w :=
  run_loadVar_row w b t _ _ _ _ h Try.underlying28 rfl (by rw [(zero_of_info (show (Try.prog.info? 28).map (fun i => (i.zero, i.size)) = some (some (.agg #[.slice none 0 0, .slice none 0 0]), 2) by kernel_rfl)).2, hc])
theorem results_row1 {fn : Func} {p : Tmp} {ty : TypeId} (h : fn.results = #[.cell p ty]) (tmps : Array Value) (w : World) (g : Nat) (cs : Array Value)
    (hp : tmps.getD p undef = .pointer (some ⟨g, 0, none⟩)) (hl : (loadVar ty ⟨g, 0, none⟩).run Try.prog w = .ok (.agg cs) w) :
    (results fn tmps).run Try.prog w = .ok (.agg cs) w := by
  have hp' : tmps[p]?.getD undef = .pointer (some ⟨g, 0, none⟩) := by simpa using hp
  simp [results, h, hp', asAddr, hl]
set_option maxRecDepth 100000 in
set_option maxHeartbeats 6400000 in
theorem all_any {Y : Nat → Prop} {w : World} {h0 : Nat → Option (List Int)} (hc0 : Cx Y w (hx h0)) (oa : Option Addr) (l : List (List Int)) (n c : Nat) (hn : l.length = n) (hl : n ≤ 100000) (hA : Ba.GAt w oa 1 (LE w) l) :
    Calls Try.prog 9 #[.slice oa n c] w fun r w' => ∃ vC vW ks h, r = .returned (.agg #[vC, vW]) ∧ AllR Y w w' (lsF l) vC vW h0 ks h := by
  have zr := zero_ref
  have rs := ra_size nf
  have a0 : AI Y w ((w.alloc (.cells #[.slice none 0 0, .slice none 0 0] 28)).alloc (.cells #[.slice none 0 0, .slice none 0 0] 28)) [] [] (.slice none 0 0) (.slice none 0 0) h0 h0 := by
    have b1 := btr (Ba.below_alloc w (.cells #[.slice none 0 0, .slice none 0 0] 28)) (Ba.below_alloc _ (.cells #[.slice none 0 0, .slice none 0 0] 28))
    have hz : ((w.alloc (.cells #[.slice none 0 0, .slice none 0 0] 28)).alloc (.cells #[.slice none 0 0, .slice none 0 0] 28)).heap.size = w.heap.size + 2 := by rw [World.size_alloc, World.size_alloc]
    refine ⟨?_, ?_, World.ownsRow_nil _ _ _ _, World.ownsRow_nil _ _ _ _, by simp [Value.ownBlock], ?_, by simp, Ext.refl _, b1, by rw [hz]; exact Nat.le_refl _⟩
    · rw [Below.heap_alloc _ _ _ (by rw [World.size_alloc]; omega)]; exact heap_new _ _
    · have := heap_new (w.alloc (.cells #[.slice none 0 0, .slice none 0 0] 28)) (.cells #[.slice none 0 0, .slice none 0 0] 28)
      rwa [World.size_alloc] at this
    · refine cx_ext hc0 (fun k hk _ => b1.block k hk) ?_ ?_
      · rintro k (q | q | q | q | q)
        · exact .inl q
        · exact .inr (by omega)
        · exact .inr (by omega)
        · simp [Value.ownBlock] at q
        · simp [Value.ownBlock] at q
      · rintro k (q | q | q | q | q)
        · rw [hz]; have := hc0.base k q; omega
        · rw [hz]; omega
        · rw [hz]; omega
        · simp [Value.ownBlock] at q
        · simp [Value.ownBlock] at q
  have A0 := hide a0
  have HA := hide hA
  have HN := hide hn
  have hn2 : n ≤ 9223372036854775807 := by omega
  obtain ⟨i1, hi1, hy1, hy2, hy3⟩ := info_parts info_pc
  have INP := hide (And.intro hi1 (And.intro hy1 (And.intro hy2 hy3)))
  clear hi1 hy1 hy2 hy3
  obtain ⟨i2, hi1, hy1, hy2, hy3⟩ := info_parts info_rc
  have INR := hide (And.intro hi1 (And.intro hy1 (And.intro hy2 hy3)))
  clear hi1 hy1 hy2 hy3 a0 hA hc0 hn
  go_enter Try.func9, Try.ntmps9
  go_wp2_with fail
  generalize (w.alloc (.cells #[.slice none 0 0, .slice none 0 0] 28)).alloc (.cells #[.slice none 0 0, .slice none 0 0] 28) = W2 at *
  go_loopw [13] (fun i wr => ∃ (k : Nat) (ks : List (Nat × List Int)) (vC vW : Value) (h : Nat → Option (List Int)), k ≤ n ∧ i = .int .i64 (k : Int) ∧ AI Y w wr ks ((ks.map Prod.snd).map nth) vC vW h0 h ∧ ks.map Prod.snd = lsF (l.take k)) (fun i _ => n - (intOf i).toNat)
  case atStart => exact ⟨0, [], _, _, _, Nat.zero_le _, rfl, A0.out, rfl⟩
  case round =>
    clear A0
    obtain ⟨k, ks, vC, vW, h, hk, rfl, ai, hks⟩ := hrel
    have HKS := hide hks
    have hkl : ks.length ≤ k := by
      have := congrArg List.length hks
      rw [List.length_map] at this
      have h2 := lsF_len (l.take k)
      rw [List.length_take] at h2
      omega
    obtain ⟨oC, nC, cC, rfl⟩ := own_sl3 ai.oc
    obtain ⟨oW, nW, cW, rfl⟩ := own_sl3 ai.ow
    have AH := hide ai
    clear ai hks
    by_cases hlt : k < n
    · have hlt' : (k : Int) < (n : Int) := by omega
      obtain ⟨x, hx⟩ : ∃ x, l[k]? = some x := ⟨_, List.getElem?_eq_getElem (by rw [HN.out]; exact hlt)⟩
      obtain ⟨b, off, cs, rfl, hcl, hcell, oc, cap, hcs, hAt, hc1, hc2⟩ := HA.out k x hx
      subst hcs
      have p0 := cellB (hcell 0 (by decide)) AH.out.bl
      simp at p0
      have AT := hide (hAt.below AH.out.bl)
      have LT := hide (lsF_take hx)
      clear hx hcell hAt hcl
      by_cases hv : x.length ≤ 256 ∧ Valid x
      · rw [gd_yes hv] at LT
        simp only [if_true] at LT
        have O1 := hide (of_fresh oc x x.length cap rfl wr AT.out hv.1 hc1 hc2 hv.2)
        have O2 := hide (fun u (bu : Below wr.heap.size wr u) => rof_ok oc x cap u (AT.out.below bu) hv.1 hv.2)
        have HV := hide hv
        clear hv hc1 hc2 AT
        obtain ⟨nx, hnx⟩ : ∃ nx, x.length = nx := ⟨_, rfl⟩
        rw [hnx] at O1 O2 p0
        clear hnx
        go_wp2_with fail
        refine O1.out.mono ?_
        rintro r w1 ⟨A, rfl, f1⟩
        obtain ⟨hA0, a1⟩ := AH.out.clk f1 (canon_trm x) (valid_trm HV.out.2)
        have A1 := hide a1
        have R2 := hide (O2.out w1 f1.choose_spec.choose_spec.2.2.2.2.2)
        clear f1 a1 O1 O2 AH hA0
        go_wp2_with fail
        refine R2.out.mono ?_
        rintro r w2 ⟨rfl, b2⟩
        have s1 := st_ref (nth x) (heap_new w2 (.cells (ra nf) 35)) (ra_size nf)
        rw [setRow_new] at s1
        have A3 := hide (A1.out.below (btr b2 (Ba.below_alloc w2 (.cells (ra (nth x)) 35))))
        have H8 : Hid ((w2.alloc (.cells (ra (nth x)) 35)).heap[w2.heap.size]? = some (.cells (ra (nth x)) 35 (0, 0))) := heap_new _ _
        have NT : Hid ((Value.slice oC nC cC).ownBlock ≠ some w2.heap.size ∧ w.heap.size + 1 < w2.heap.size) := by
          have := A1.out.sz
          have := b2.size
          exact ⟨fun q => by have := (A1.out.oc.lt _ q).2; omega, by omega⟩
        clear b2 R2 A1
        go_upto_region 8 with fail
        generalize w2.alloc (.cells (ra (nth x)) 35) = w3 at *
        generalize w2.heap.size = T8 at *
        have O4 := hide (own_sm A3.out.oc (w' := w3.alloc (.cells #[.pointer (some ⟨A, 0, none⟩)] 48)) (fun g e => (Ba.below_alloc w3 _).block g (A3.out.oc.lt g e).2))
        have CO := hide (cell_one_new w3 (.pointer (some ⟨A, 0, none⟩)) 48)
        have ON := hide (one_pt A)
        have L4 : Hid (w.heap.size + 2 ≤ (w3.alloc (.cells #[.pointer (some ⟨A, 0, none⟩)] 48)).heap.size) := by
          show _ ≤ _
          rw [World.size_alloc]; have := A3.out.sz; omega
        have hm1 : ks.length + 1 ≤ maxLen := by simp only [maxLen]; omega
        have hm2 : (ks.length + 1) * 8 ≤ 140737488355328 := by omega
        have y30 := cell_of A3.out.h3 0
        simp at y30
        have hlt3 := Ba.heap_lt A3.out.h3
        clear s1
        go_wp2_with (at_builtin; refine wpList_append_own_at _ rfl _ _ 25 rfl (w.heap.size + 2) 48 i1 _ 1 8 Try.underlying25 INP.out.1 INP.out.2.1 INP.out.2.2.1 INP.out.2.2.2 rfl (by decide) _ _ _ rfl O4.out ⟨w3.heap.size, 0, none⟩ 1 1 [pt A] rfl rfl CO.out ON.out hm1 hm2 L4.out ?_)
        intro vC2 w5 o5 g5 x5 e5
        obtain ⟨oC2, nC2, cC2, rfl⟩ := own_sl3 o5
        have A6 : Hid (AI Y w (w5.setCell ⟨w.heap.size + 1, 0, none⟩ (.slice oC2 nC2 cC2)) (ks ++ [(A, trm x)]) ((ks.map Prod.snd).map nth) (.slice oC2 nC2 cC2) (.slice oW nW cW) h0 (upd h A (trm x))) :=
          (A3.out.below (Ba.below_alloc w3 (.cells #[.pointer (some ⟨A, 0, none⟩)] 48))).appC (upd_same _ _ _) o5 g5 (by rw [World.size_alloc]; exact e5)
        have h35 : w5.heap[w.heap.size + 1]? = some (.cells #[.slice oC nC cC, .slice oW nW cW] 28 (0, 0)) :=
          (g5.block _ (by rw [World.size_alloc]; omega) (fun q => by have := (A3.out.oc.lt _ q.symm).1; omega)).trans (((Ba.below_alloc w3 _).block _ hlt3).trans A3.out.h3)
        have H86 : Hid ((w5.setCell ⟨w.heap.size + 1, 0, none⟩ (.slice oC2 nC2 cC2)).heap[T8]? = some (.cells (ra (nth x)) 35 (0, 0))) := by
          show _ = _
          rw [Below.heap_setCell _ _ _ _ (by have := NT.out.2; show T8 ≠ w.heap.size + 1; omega), g5.block T8 (by rw [World.size_alloc]; have := Ba.heap_lt H8.out; omega) (fun q => NT.out.1 q.symm), (Ba.below_alloc w3 _).block T8 (Ba.heap_lt H8.out)]
          exact H8.out
        have y50 := cell_of h35 0
        simp at y50
        have f50 : w5.frozen? ⟨w.heap.size + 1, 0, none⟩ = false := Ba.frozen_of h35 0
        have y61 := cell_of A6.out.h3 1
        simp at y61
        have lc : (loadCellsFrom ⟨T8, 0, none⟩ 0 256 #[]).run Try.prog (w5.setCell ⟨w.heap.size + 1, 0, none⟩ (.slice oC2 nC2 cC2)) = .ok (ra (nth x)) (w5.setCell ⟨w.heap.size + 1, 0, none⟩ (.slice oC2 nC2 cC2)) := ld_ref (RA.of H86.out)
        obtain ⟨LC, hLC⟩ : ∃ LC : Nat → Sem (Array Value), ∀ n, loadCellsFrom (⟨T8, 0, none⟩ : Addr) 0 n #[] = LC n := ⟨fun n => loadCellsFrom (⟨T8, 0, none⟩ : Addr) 0 n #[], fun _ => rfl⟩
        rw [hLC] at lc
        have hlt6 := Ba.heap_lt A6.out.h3
        clear o5 g5 x5 e5 h35 O4 CO ON L4 hm1 hm2 y30 hlt3 A3 H8
        go_upto_region 9 with fail
        generalize hW6 : w5.setCell ⟨w.heap.size + 1, 0, none⟩ (.slice oC2 nC2 cC2) = w6 at *
        clear hW6
        have O7 := hide (own_sm A6.out.ow (w' := w6.alloc (.cells (ra (nth x)) 35)) (fun g e => (Ba.below_alloc w6 _).block g (A6.out.ow.lt g e).2))
        have CR := hide (cell_ra w6 (nth x) 35)
        have OR := hide (rcs_cells [nth x])
        have RL := hide (show (rcs [nth x]).length = 1 * 256 from rcs_len _)
        have L7 : Hid (w.heap.size + 2 ≤ (w6.alloc (.cells (ra (nth x)) 35)).heap.size) := by
          show _ ≤ _
          rw [World.size_alloc]; have := A6.out.sz; omega
        have FIN : Hid (∀ vW' w8, w8.ownsRow (w.heap.size + 2) 35 256 vW' (((ks.map Prod.snd).map nth).length + 1) (rcs ((ks.map Prod.snd).map nth) ++ rcs [nth x]) → (w6.alloc (.cells (ra (nth x)) 35)).grownBy w8 (Value.slice oW nW cW).ownBlock → (vW'.ownBlock = (Value.slice oW nW cW).ownBlock ∨ vW'.ownBlock = some (w6.heap.size + 1)) →
            AI Y w (w8.setCell ⟨w.heap.size + 1, 1, none⟩ vW') (ks ++ [(A, trm x)]) (((ks ++ [(A, trm x)]).map Prod.snd).map nth) (.slice oC2 nC2 cC2) vW' h0 (upd h A (trm x)) ∧ w8.heap[w.heap.size + 1]? = some (.cells #[.slice oC2 nC2 cC2, .slice oW nW cW] 28 (0, 0))) := by
          intro vW' w8 o8 g8 e8
          have a7 := A6.out.below (Ba.below_alloc w6 (.cells (ra (nth x)) 35))
          have := a7.appW (F := nth x) o8 g8 (by rw [World.size_alloc]; exact e8)
          refine ⟨?_, ?_⟩
          · rw [List.map_append, List.map_append]
            simp only [List.map_cons, List.map_nil, nth_trmF]
            exact this
          · exact (g8.block _ (Ba.heap_lt a7.h3) (fun q => by have := (a7.ow.lt _ q.symm).1; omega)).trans a7.h3
        have hm1 : ((ks.map Prod.snd).map nth).length + 1 ≤ maxLen := by simp only [maxLen, List.length_map]; omega
        have hm2 : (((ks.map Prod.snd).map nth).length + 1) * 2048 ≤ 140737488355328 := by simp only [List.length_map]; omega
        generalize (ks.map Prod.snd).map nth = Fl at *
        have as_ := ra_size (nth x)
        have fo := fold_r (nth x)
        have rn := ra_size nf
        have INZ := hide INR.out
        clear y50 f50 H86
        obtain ⟨NN, hNN⟩ : ∃ NN, NN = rcs [nth x] := ⟨_, rfl⟩
        rw [← hNN] at CR OR RL FIN
        clear hNN
        generalize ra (nth x) = AF at *
        generalize ra nf = Z0 at *
        generalize hrg : Array.range 256 = RG at *
        go_wp2_with (at_builtin; refine wpList_append_own_at _ rfl _ _ 26 rfl (w.heap.size + 2) 35 i2 (.agg Z0) 256 2048 Try.underlying26 INZ.out.1 INZ.out.2.1 INZ.out.2.2.1 INZ.out.2.2.2 rn (by decide) _ _ _ rfl O7.out ⟨w6.heap.size, 0, none⟩ 1 1 NN rfl RL.out CR.out OR.out hm1 hm2 L7.out ?_)
        intro vW2 w8 o8 g8 x8 e8
        obtain ⟨oW2, nW2, cW2, rfl⟩ := own_sl3 o8
        obtain ⟨a9, h38⟩ := FIN.out _ w8 o8 g8 e8
        have A9 := hide a9
        have y81 := cell_of h38 1
        simp at y81
        have f81 : w8.frozen? ⟨w.heap.size + 1, 1, none⟩ = false := Ba.frozen_of h38 1
        have hlt8 := Ba.heap_lt h38
        have HK2 : Hid ((ks ++ [(A, trm x)]).map Prod.snd = lsF (l.take (k + 1))) := by
          show _ = _
          rw [LT.out, List.map_append, HKS.out]; rfl
        clear o8 g8 x8 e8 a9 h38 FIN O7 CR OR RL L7 A6 lc
        go_wp2_with fail
        go_roundw
        case rel => exact ⟨k + 1, ks ++ [(A, trm x)], _, _, _, by omega, by go_num, A9.out, HK2.out⟩
        case measure => simp [intOf]; omega
      · rw [gd_no hv] at LT
        simp only [Bool.false_eq_true, if_false, List.append_nil] at LT
        obtain ⟨ev, hev, o1, O2⟩ : ∃ ev : Int, (ev == 0) = false ∧ Hid (Calls Try.prog 17 #[.slice oc x.length cap] wr fun r w' => r = .returned (.tuple #[.pointer none, .int .i64 ev]) ∧ w' = wr) ∧ Hid (Calls Try.prog 18 #[.slice oc x.length cap] wr fun r w' => r = .returned (.tuple #[.agg (ra nf), .int .i64 ev]) ∧ Below wr.heap.size wr w') := by
          by_cases hh : 256 < x.length
          · exact ⟨2, rfl, of_long oc x.length cap wr hh (Nat.le_trans hc1 hc2), rof_long oc x.length cap wr hh (Nat.le_trans hc1 hc2)⟩
          · exact ⟨1, rfl, of_bad oc x cap wr AT.out (by omega) (fun q => hv ⟨by omega, q⟩), rof_bad oc x cap wr AT.out (by omega) (fun q => hv ⟨by omega, q⟩)⟩
        have HK2 : Hid (ks.map Prod.snd = lsF (l.take (k + 1))) := by
          show _ = _
          rw [LT.out]; exact HKS.out
        have O1 := hide o1.out
        clear hv hc1 hc2 AT o1
        obtain ⟨nx, hnx⟩ : ∃ nx, x.length = nx := ⟨_, rfl⟩
        rw [hnx] at O1 O2 p0
        clear hnx
        go_wp2_with fail
        refine O1.out.mono ?_
        rintro r w1 ⟨rfl, e1⟩
        obtain rfl := e1.symm
        go_wp2_with fail
        refine O2.out.mono ?_
        rintro r w2 ⟨rfl, b2⟩
        have s1 := st_ref nf (heap_new w2 (.cells (ra nf) 35)) (ra_size nf)
        rw [setRow_new] at s1
        have A3 := hide (AH.out.below (btr b2 (Ba.below_alloc w2 (.cells (ra nf) 35))))
        clear b2 AH O1 O2
        go_wp2_with fail
        go_roundw
        case rel => exact ⟨k + 1, ks, _, _, _, by omega, by go_num, A3.out, HK2.out⟩
        case measure => simp [intOf]; omega
    · have hlt' : ¬ ((k : Int) < (n : Int)) := by omega
      obtain rfl : n = k := by omega
      have ET : Hid (l.take n = l) := by show _ = _; exact List.take_of_length_le (by rw [HN.out]; exact Nat.le_refl _)
      rw [ET.out] at HKS
      have u0 := cell_of AH.out.h3 0
      have u1 := cell_of AH.out.h3 1
      have v0 := cell_of AH.out.h2 0
      have v1 := cell_of AH.out.h2 1
      simp at u0 u1 v0 v1
      have f0 : wr.frozen? ⟨w.heap.size, 0, none⟩ = false := Ba.frozen_of AH.out.h2 0
      have f1 : wr.frozen? ⟨w.heap.size, 1, none⟩ = false := Ba.frozen_of AH.out.h2 1
      have hltw := Ba.heap_lt AH.out.h2
      have hb : Below w.heap.size w ((wr.setCell ⟨w.heap.size, 0, none⟩ (.slice oC nC cC)).setCell ⟨w.heap.size, 1, none⟩ (.slice oW nW cW)) := (AH.out.bl.setCell (Nat.le_refl _) _).setCell (Nat.le_refl _) _
      have ho : ∀ k', k' ≠ w.heap.size → ((wr.setCell ⟨w.heap.size, 0, none⟩ (.slice oC nC cC)).setCell ⟨w.heap.size, 1, none⟩ (.slice oW nW cW)).heap[k']? = wr.heap[k']? := fun k' hne => (Below.heap_setCell _ _ _ _ hne).trans (Below.heap_setCell _ _ _ _ hne)
      have hsz : ((wr.setCell ⟨w.heap.size, 0, none⟩ (.slice oC nC cC)).setCell ⟨w.heap.size, 1, none⟩ (.slice oW nW cW)).heap.size = wr.heap.size := by simp [World.setCell]
      have H2 : Hid (((wr.setCell ⟨w.heap.size, 0, none⟩ (.slice oC nC cC)).setCell ⟨w.heap.size, 1, none⟩ (.slice oW nW cW)).heap[w.heap.size]? = some (.cells #[.slice oC nC cC, .slice oW nW cW] 28 (0, 0))) := by
        have e1 := Ba.heap_setCell_same (i := 0) AH.out.h2 (.slice oC nC cC)
        have e2 := Ba.heap_setCell_same (i := 1) e1 (.slice oW nW cW)
        show _ = _
        simpa using e2
      have RR : Hid (AllR Y w ((wr.setCell ⟨w.heap.size, 0, none⟩ (.slice oC nC cC)).setCell ⟨w.heap.size, 1, none⟩ (.slice oW nW cW)) (lsF l) (.slice oC nC cC) (.slice oW nW cW) h0 ks h) := by
        refine ⟨HKS.out, own_sm AH.out.oc (fun g e => ho g (by have := (AH.out.oc.lt g e).1; omega)), ?_, AH.out.dw, ?_, AH.out.dom, AH.out.ex, hb⟩
        · have q := AH.out.ow
          rw [HKS.out] at q
          have e : ks.length = ((lsF l).map nth).length := by rw [List.length_map, ← HKS.out, List.length_map]
          rw [e]
          exact own_sm q (fun g e => ho g (by have := (AH.out.ow.lt g e).1; omega))
        · refine cx_ext AH.out.cx (fun k' hk' hn => ho k' (fun e => hn (.inr (.inl e)))) (fun k' q => ?_) (fun k' q => ?_)
          · rcases q with q | q | q
            · exact .inl (.inl q)
            · exact .inl (.inr (.inr (.inr (.inl q))))
            · exact .inl (.inr (.inr (.inr (.inr q))))
          · rw [hsz]
            rcases q with q | q | q
            · exact AH.out.cx.base k' (.inl q)
            · exact (AH.out.oc.lt k' q).2
            · exact (AH.out.ow.lt k' q).2
      clear hb ho hsz AH ET
      go_wp2_with fail
      exact bodyPost_ret (results_row1 Try.results9 _ _ _ _ rfl (loadVar_bot H2.out rfl)) rfl ⟨.slice oC nC cC, .slice oW nW cW, rfl, ks, h, RR.out⟩
end Rt
end Go.Proofs.Ytbceiakihplbcaa
