/- Package report, over this seat's program: how a report is kept; isCell, Cell, First, tell. -/
import Derived.Test.YtodppbahihjegaaZa
import Derived.Deep.Cut
namespace Go.Proofs.Ytodppbahihjegaa
open Go.ChangeShapes Go.WideShapes Go.ChangeAt Go.RowKit
namespace Rep
open Ck Ce
open Ba (hide)

theorem map_same {w w' : World} {mb n : Nat} {D : DataW Unit} (h : w.ownsMap Try.prog 3 mE mb n D) (e : w'.heap[mb]? = w.heap[mb]?) : w'.ownsMap Try.prog 3 mE mb n D := by
  obtain ⟨es, clock, hb, r⟩ := h
  exact ⟨es, clock, e.trans hb, r⟩
section
variable {Y Z : Nat → Prop} {X : Nat} {w w' : World} {S : Rst} {mb : Nat} {D : DataW Unit} {xs : Nat → Nat} {vs : Nat → Value}
theorem RX.lt (s : RX Y X w S mb D xs vs) : X < w.heap.size := (Array.getElem?_eq_some_iff.1 s.hd).1
theorem RX.bl (s : RX Y X w S mb D xs vs) : ∀ k, Rb X mb xs vs k → k < w.heap.size := by
  rintro k (rfl | rfl | ⟨j, hj, rfl | q⟩)
  · exact s.lt
  · exact s.lm
  · exact (s.cx j hj).lt
  · exact ((s.cx j hj).own.lt k q).2
theorem RX.bd (s : RX Y X w S mb D xs vs) : ∀ k, Rb X mb xs vs k → ¬ Y k := by
  rintro k (rfl | rfl | ⟨j, hj, rfl | q⟩) h
  · exact s.yx h
  · exact s.ym h
  · exact (s.cx j hj).yx (.inl h)
  · exact (s.cx j hj).yg k q (.inl h)
theorem RX.yl (s : RX Y X w S mb D xs vs) : ∀ k, Y k → k < w.heap.size := fun k q => (s.cx 0 (by decide)).yl k (.inl q)
/-- nothing of its own has changed -/
theorem RX.mv (s : RX Y X w S mb D xs vs) (hb : ∀ k, Rb X mb xs vs k → w'.heap[k]? = w.heap[k]?) (hz : ∀ k, Z k → ¬ Rb X mb xs vs k) (zl : ∀ k, Z k → k < w'.heap.size) (hs : w.heap.size ≤ w'.heap.size) : RX Z X w' S mb D xs vs := by
  refine ⟨(hb X (.inl rfl)).trans s.hd, map_same s.ow (hb mb (.inr (.inl rfl))), s.mi, s.ne, fun q => hz X q (.inl rfl), fun q => hz mb q (.inr (.inl rfl)), Nat.lt_of_lt_of_le s.lm hs, fun i hi => ?_, s.fk⟩
  refine (s.cx i hi).mv (hb _ (.inr (.inr ⟨i, hi, .inl rfl⟩))) (fun g q => hb _ (.inr (.inr ⟨i, hi, .inr q⟩))) ?_ ?_ ?_
  · rintro (q | q)
    · exact hz _ q (.inr (.inr ⟨i, hi, .inl rfl⟩))
    · exact (s.cx i hi).yx (.inr q)
  · rintro g h (q | q)
    · exact hz _ q (.inr (.inr ⟨i, hi, .inr h⟩))
    · exact (s.cx i hi).yg g h (.inr q)
  · rintro k (q | q)
    · exact zl k q
    · exact Nat.lt_of_lt_of_le ((s.cx i hi).yl k (.inr q)) hs
theorem RX.below (s : RX Y X w S mb D xs vs) (b : Below w.heap.size w w') : RX Y X w' S mb D xs vs :=
  s.mv (fun k q => b.block k (s.bl k q)) (fun k q r => s.bd k r q) (fun k q => Nat.lt_of_lt_of_le (s.yl k q) b.size) b.size
/-- a cell has changed -/
theorem RX.cell (s : RX Y X w S mb D xs vs) {i : Nat} (hi : i < 8) {st' : Cst} {v' : Value} (c : CX (Ot Y X mb xs vs i) (xs i) w' st' v') (k : KY (Ot Y X mb xs vs i) w w') : RX Y X w' ⟨upn S.c i st', S.f⟩ mb D xs (upn vs i v') := by
  refine ⟨(k.block X (.inr (.inl rfl))).trans s.hd, map_same s.ow (k.block mb (.inr (.inr (.inl rfl)))), s.mi, s.ne, s.yx, s.ym, Nat.lt_of_lt_of_le s.lm k.size, fun j hj => ?_, s.fk⟩
  show CX _ (xs j) w' (upn S.c i st' j) (upn vs i v' j)
  by_cases e : j = i
  · subst e
    rw [upn_same, upn_same]
    have sub : ∀ x, Ot Y X mb xs (upn vs j v') j x → Ot Y X mb xs vs j x := by
      rintro x (q | q | q | ⟨l, hl, hne, q⟩)
      · exact .inl q
      · exact .inr (.inl q)
      · exact .inr (.inr (.inl q))
      · rw [upn_other _ _ _ _ hne] at q
        exact .inr (.inr (.inr ⟨l, hl, hne, q⟩))
    exact c.mv rfl (fun _ _ => rfl) (fun q => c.yx (sub _ q)) (fun g h q => c.yg g h (sub _ q)) (fun x q => c.yl x (sub _ q))
  · rw [upn_other _ _ _ _ e, upn_other _ _ _ _ e]
    have inX : Ot Y X mb xs vs i (xs j) := .inr (.inr (.inr ⟨j, hj, e, .inl rfl⟩))
    have inG : ∀ g, (vs j).ownBlock = some g → Ot Y X mb xs vs i g := fun g h => .inr (.inr (.inr ⟨j, hj, e, .inr h⟩))
    have sub : ∀ x, Ot Y X mb xs (upn vs i v') j x → Ot Y X mb xs vs j x ∨ v'.ownBlock = some x := by
      rintro x (q | q | q | ⟨l, hl, hne, q⟩)
      · exact .inl (.inl q)
      · exact .inl (.inr (.inl q))
      · exact .inl (.inr (.inr (.inl q)))
      · by_cases e2 : l = i
        · subst e2
          rw [upn_same] at q
          rcases q with q | q
          · exact .inl (.inr (.inr (.inr ⟨l, hl, hne, .inl q⟩)))
          · exact .inr q
        · rw [upn_other _ _ _ _ e2] at q
          exact .inl (.inr (.inr (.inr ⟨l, hl, hne, q⟩)))
    refine (s.cx j hj).mv (k.block _ inX) (fun g h => k.block _ (inG g h)) (fun q => ?_) (fun g h q => ?_) (fun x q => ?_)
    · rcases sub _ q with q | q
      · exact (s.cx j hj).yx q
      · exact c.yg _ q inX
    · rcases sub _ q with q | q
      · exact (s.cx j hj).yg g h q
      · exact c.yg _ q (inG g h)
    · rcases sub _ q with q | q
      · exact Nat.lt_of_lt_of_le ((s.cx j hj).yl x q) k.size
      · exact (c.own.lt x q).2
theorem RX.nx (s : RX Y X w S mb D xs vs) {i : Nat} (hi : i < 8) : xs i ≠ mb ∧ ∀ g, (vs i).ownBlock = some g → g ≠ mb := ⟨fun e => (s.cx i hi).yx (.inr (.inr (.inl e))), fun g h e => (s.cx i hi).yg g h (.inr (.inr (.inl e)))⟩
/-- the map has changed -/
theorem RX.map (s : RX Y X w S mb D xs vs) {f' : Int → Option Rc} {D' : DataW Unit} (g : w.grownBy w' (some mb)) (o : w'.ownsMap Try.prog 3 mE mb (cnt f') D') (mi : MI D' f') (fk : ∀ g, (f' g).isSome = true → 0 ≤ g ∧ g < 8) : RX Y X w' ⟨S.c, f'⟩ mb D' xs vs := by
  refine ⟨(g.block X s.lt (fun e => s.ne (by cases e; rfl))).trans s.hd, o, mi, s.ne, s.yx, s.ym, Nat.lt_of_lt_of_le s.lm g.size, fun i hi => ?_, fk⟩
  have nx := s.nx hi
  exact (s.cx i hi).mv (g.block _ (s.cx i hi).lt (fun e => nx.1 (by cases e; rfl))) (fun x h => g.block _ ((s.cx i hi).own.lt x h).2 (fun e => nx.2 x h (by cases e; rfl))) (s.cx i hi).yx (s.cx i hi).yg (fun x q => Nat.lt_of_lt_of_le ((s.cx i hi).yl x q) g.size)
end

theorem isc_yes (i : Int) (h0 : 0 ≤ i) (h1 : i < 8) (w : World) : Calls Try.prog 47 #[.int .i64 i] w fun r w' => r = .returned (.bool true) ∧ w' = w := by
  go_enter Try.func47, Try.ntmps47
  go_wp2_with fail
  go_ret
  exact ⟨rfl, rfl⟩
theorem isc_no (i : Int) (h : i < 0 ∨ 8 ≤ i) (w : World) : Calls Try.prog 47 #[.int .i64 i] w fun r w' => r = .returned (.bool false) ∧ w' = w := by
  by_cases h0 : i < 0
  · clear h
    go_enter Try.func47, Try.ntmps47
    go_wp2_with fail
    go_ret
    exact ⟨rfl, rfl⟩
  · have h1 : 8 ≤ i := by omega
    have h2 : ¬ (i < 8) := by omega
    clear h
    go_enter Try.func47, Try.ntmps47
    go_wp2_with fail
    go_ret
    exact ⟨by simp, rfl⟩
theorem cell_nil (i : Int) (w : World) : Calls Try.prog 26 #[.pointer none, .int .i64 i] w fun r w' => r = .returned (.pointer none) ∧ w' = w := by
  go_enter Try.func26, Try.ntmps26
  go_wp2_with fail
  go_ret
  exact ⟨rfl, rfl⟩
theorem cell_out (p : Option Addr) (i : Int) (h : i < 0 ∨ 8 ≤ i) (w : World) : Calls Try.prog 26 #[.pointer p, .int .i64 i] w fun r w' => r = .returned (.pointer none) ∧ w' = w := by
  cases p with
  | none => exact cell_nil i w
  | some a =>
    have I := hide (isc_no i h w)
    clear h
    go_enter Try.func26, Try.ntmps26
    go_wp2_with fail
    refine I.out.mono ?_
    rintro r w1 ⟨rfl, e1⟩
    obtain rfl := e1.symm
    go_wp2_with fail
    go_ret
    exact ⟨rfl, rfl⟩
theorem cell_at {Y : Nat → Prop} {X : Nat} {w : World} {S : Rst} {mb : Nat} {D : DataW Unit} {xs : Nat → Nat} {vs : Nat → Value} (s : RX Y X w S mb D xs vs) (i : Nat) (h : i < 8) :
    Calls Try.prog 26 #[.pointer (some ⟨X, 0, none⟩), .int .i64 (i : Int)] w fun r w' => r = .returned (pt (xs i)) ∧ w' = w := by
  have I := hide (isc_yes (i : Int) (by omega) (by omega) w)
  have c1 : w.cell? ⟨X, i, none⟩ = some (pt (xs i)) := (cell_of s.hd i).trans (hd9_at _ _ _ h)
  have h' : (i : Int) < 8 := by omega
  unfold pt at c1 ⊢
  have hlt := s.lt
  clear s
  go_enter Try.func26, Try.ntmps26
  go_wp2_with fail
  refine I.out.mono ?_
  rintro r w1 ⟨rfl, e1⟩
  obtain rfl := e1.symm
  go_wp2_with fail
  go_ret
  exact ⟨rfl, rfl⟩
theorem loadVar_rc {w : World} {b : Nat} {c : Array Value} {t : TypeId} (h : w.heap[b]? = some (.cells c t (0, 0))) (hc : c.size = 5) : (loadVar 70 ⟨b, 0, none⟩).run Try.prog w = .ok (.agg c) w :=
  run_loadVar_row w b t _ _ _ _ h Try.underlying70 rfl (by rw [(zero_of_info info_rc).2, hc])
theorem first_nil (g : Int) (w : World) : Calls Try.prog 25 #[.pointer none, .int .i64 g] w fun r w' => r = .returned (.tuple #[rv r0, .bool false]) ∧ Below w.heap.size w w' := by
  go_enter Try.func25, Try.ntmps25
  go_wp2_with fail
  exact bodyPost_ret (Ba.results_row2 Try.results25 _ _ _ _ _ rfl rfl (loadVar_rc (heap_new _ _) rfl)) rfl ⟨rfl, Ba.below_alloc _ _⟩
/-- what First tells -/
def fV (o : Option Rc) : Value := .tuple #[rv (o.getD r0), .bool o.isSome]
set_option maxRecDepth 100000 in
theorem first_any {Y : Nat → Prop} {X : Nat} {w : World} {S : Rst} {mb : Nat} {D : DataW Unit} {xs : Nat → Nat} {vs : Nat → Value} (s : RX Y X w S mb D xs vs) (g : Int) (hg : wfk g) :
    Calls Try.prog 25 #[.pointer (some ⟨X, 0, none⟩), .int .i64 g] w fun r w' => r = .returned (fV (S.f g)) ∧ Below w.heap.size w w' := by
  have y2 : w.cell? ⟨X, 8, none⟩ = some (.map (some mb)) := cell_of s.hd 8
  have hlt := s.lt
  have OW := hide (s.ow.alloc (.cells #[.int .i64 0, .int .i64 0, .int .i64 0, .int .i64 0, .bool false] 70))
  have HK := hide (key_kl g hg)
  have LS := hide (fun v ps (e : mE v = some (D.atKey (kl g) (rD r0), ps)) => look_shape s.mi e)
  have hh : Maps.has D (kl g) = (S.f g).isSome := s.mi.has g
  have ZR := hide (fun u => zero_rc u)
  have hmz : mE (rv r0) = some (rD r0, []) := rfl
  unfold fV
  generalize S.f g = o at *
  clear s hg
  cases o with
  | none =>
    simp only [Option.isSome_none, Option.getD_none] at hh LS ⊢
    unfold rv ra5 at LS ZR ⊢
    go_enter Try.func25, Try.ntmps25
    go_wp2_with (at_lookup; refine wpList_lookup_own_ok _ rfl _ _ 110 rfl 3 70 law Try.underlying110 mE (ZR.out _) (rD r0) [] hmz mb _ D rfl OW.out _ _ rfl HK.out ?_; intro v ps hv; obtain rfl := LS.out v ps hv; clear hv)
    exact bodyPost_ret (Ba.results_row2 Try.results25 _ _ _ _ _ rfl rfl (loadVar_rc (Ba.heap_below (heap_new w _) (Ba.below_alloc _ _)) rfl)) rfl ⟨rfl, btr (Ba.below_alloc _ _) (Ba.below_alloc _ _)⟩
  | some r =>
    simp only [Option.isSome_some, Option.getD_some] at hh LS ⊢
    unfold rv ra5 at LS ZR ⊢
    obtain ⟨a, b, c, d, e⟩ := r
    simp only at LS ⊢
    go_enter Try.func25, Try.ntmps25
    go_wp2_with (at_lookup; refine wpList_lookup_own_ok _ rfl _ _ 110 rfl 3 70 law Try.underlying110 mE (ZR.out _) (rD r0) [] hmz mb _ D rfl OW.out _ _ rfl HK.out ?_; intro v ps hv; obtain rfl := LS.out v ps hv; clear hv)
    exact bodyPost_ret (Ba.results_row2 Try.results25 _ _ _ _ _ rfl rfl (loadVar_rc (Ba.heap_below (heap_new w _) (Ba.below_alloc _ _)) rfl)) rfl ⟨rfl, btr (Ba.below_alloc _ _) (Ba.below_alloc _ _)⟩
set_option maxRecDepth 100000 in
theorem tell_no {Y : Nat → Prop} {X : Nat} {w : World} {S : Rst} {mb : Nat} {D : DataW Unit} {xs : Nat → Nat} {vs : Nat → Value} (s : RX Y X w S mb D xs vs) (r : Rc) (h0 : 0 ≤ r.c) (h1 : r.c < 8) (q : Rc) (hf : S.f r.c = some q) :
    Calls Try.prog 49 #[.pointer (some ⟨X, 0, none⟩), rv r] w fun o w' => o = .returned (.bool false) ∧ Below w.heap.size w w' := by
  have wf : wfk r.c := by unfold wfk; simp [Lit.wf, IntKind.min, IntKind.max, IntKind.bits, IntKind.signed]; omega
  have FI := hide (first_any (s.below (Ba.below_alloc w (.cells (ra5 r) 70))) r.c wf)
  rw [hf] at FI
  unfold fV at FI
  simp only [Option.getD_some, Option.isSome_some] at FI
  unfold rv ra5 at FI ⊢
  clear s hf wf
  go_enter Try.func49, Try.ntmps49
  go_wp2_with fail
  refine FI.out.mono ?_
  rintro o w1 ⟨rfl, b1⟩
  have B1 := hide (btr (Ba.below_alloc _ _) b1)
  clear b1
  go_wp2_with fail
  go_ret
  exact ⟨rfl, btr B1.out (Ba.below_alloc _ _)⟩
set_option maxRecDepth 100000 in
theorem tell_yes {Y : Nat → Prop} {X : Nat} {w : World} {S : Rst} {mb : Nat} {D : DataW Unit} {xs : Nat → Nat} {vs : Nat → Value} (s : RX Y X w S mb D xs vs) (r : Rc) (h0 : 0 ≤ r.c) (h1 : r.c < 8) (hf : S.f r.c = none) :
    Calls Try.prog 49 #[.pointer (some ⟨X, 0, none⟩), rv r] w fun o w' => o = .returned (.bool true) ∧ (∃ D', RX Y X w' ⟨S.c, upf S.f r.c (some r)⟩ mb D' xs vs) ∧ KY Y w w' := by
  have wf : wfk r.c := by unfold wfk; simp [Lit.wf, IntKind.min, IntKind.max, IntKind.bits, IntKind.signed]; omega
  have FI := hide (first_any (s.below (Ba.below_alloc w (.cells (ra5 r) 70))) r.c wf)
  rw [hf] at FI
  unfold fV at FI
  simp only [Option.getD_none, Option.isSome_none] at FI
  have hb : (w.alloc (.cells (ra5 r) 70)).heap[w.heap.size]? = some (.cells (ra5 r) 70 (0, 0)) := heap_new _ _
  have HB := hide hb
  have HS := hide s
  have WF := hide wf
  have HF := hide hf
  clear s hf wf hb
  unfold rv ra5 at FI ⊢
  go_enter Try.func49, Try.ntmps49
  go_wp2_with fail
  refine FI.out.mono ?_
  rintro o w1 ⟨rfl, b1⟩
  have B1 := hide (btr (Ba.below_alloc _ _) b1)
  have HB1 := hide ((b1.block w.heap.size (by rw [World.size_alloc]; omega)).trans HB.out)
  clear b1 HB FI
  go_upto_region 4 with fail
  have B2 := hide (btr B1.out (Ba.below_alloc w1 (.cells (ra5 r0) 70)))
  have HB2 := hide (((Ba.below_alloc w1 (.cells (ra5 r0) 70)).block w.heap.size (Ba.heap_lt HB1.out)).trans HB1.out)
  have S2 := hide (HS.out.below B2.out)
  unfold ra5 at B2 HB2 S2
  generalize w1.alloc (.cells #[.int .i64 r0.c, .int .i64 r0.p, .int .i64 r0.g, .int .i64 r0.wi, .bool r0.wr] 70) = w2 at *
  obtain ⟨w3, hrun, o3, g3⟩ := (map_same (w' := w2.drew) S2.out.ow rfl).update law Try.underlying110 (Nat.lt_of_le_of_lt (cnt_le _) (by unfold maxLen; decide)) (key_kl r.c WF.out) (mE_v r)
  unfold rv ra5 at hrun
  have y8 : w2.cell? ⟨X, 8, none⟩ = some (.map (some mb)) := cell_of S2.out.hd 8
  have z0 := cell_of HB2.out 0
  have z1 := cell_of HB2.out 1
  have z2 := cell_of HB2.out 2
  have z3 := cell_of HB2.out 3
  have z4 := cell_of HB2.out 4
  simp at z0 z1 z2 z3 z4
  have KY3 : Hid (KY Y w w3) := (KY.of (btr B2.out (Ba.bdrew1 w2)) HS.out.yl).trans (KY.grown g3 (fun k q => Nat.lt_of_lt_of_le (HS.out.yl k q) B2.out.size) (fun g e q => HS.out.ym (by cases e; exact q)))
  have RX3 : Hid (RX Y X w3 ⟨S.c, upf S.f r.c (some r)⟩ mb (D.put (kl r.c) (rD r)) xs vs) := by
    refine (S2.out.below (Ba.bdrew1 w2)).map g3 ?_ (S2.out.mi.put WF.out r) (fun g e => ?_)
    · rw [cnt_put h0 h1 HF.out]; exact o3
    · by_cases q : g = r.c
      · rw [q]; exact ⟨h0, h1⟩
      · rw [upf_other _ _ _ _ q] at e; exact S2.out.fk g e
  clear S2 HB2 HB1 B1 B2 o3 g3 HS
  go_region
  all_goals
    go_wp2_with fail
    go_ret
    exact ⟨rfl, ⟨_, RX3.out⟩, KY3.out⟩
end Rep
end Go.Proofs.Ytodppbahihjegaa
