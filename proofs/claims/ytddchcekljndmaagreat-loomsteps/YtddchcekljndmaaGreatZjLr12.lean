import Derived.Test.YtddchcekljndmaaGreatZjLr11
import Derived.Shelf.Strings.BuilderK
import Derived.Deep.DeepCutAuto
import Derived.Deep.RegionWith
/- Copies of cases and events (slices.Clone), over this seat's program. -/
namespace Go.Proofs.YtddchcekljndmaaGreat
open Go.ChangeShapes Go.WideShapes Go.ChangeAt Go.RowKit
namespace Lo
open Ba

/-- events lie in memory -/
def EsAt (w : World) (oa : Option Addr) (l : List Ev) : Prop :=
  ∀ k e, l[k]? = some e → ∃ b off, oa = some ⟨b, off, none⟩ ∧ ∀ j, j < 8 → w.cell? ⟨b, off + k * 8 + j, none⟩ = (En.evc e)[j]?
theorem EsAt.nil (w : World) (oa : Option Addr) : EsAt w oa [] := fun _ _ h => by simp at h
theorem evc_some (e : Ev) (j : Nat) (h : j < 8) : ∃ v, (En.evc e)[j]? = some v := ⟨_, Array.getElem?_eq_getElem h⟩
theorem EsAt.below {w w' : World} {oa : Option Addr} {l : List Ev} (h : EsAt w oa l) (hb : Below w.heap.size w w') : EsAt w' oa l := by
  intro k e hk
  obtain ⟨b, off, he, hc⟩ := h k e hk
  refine ⟨b, off, he, fun j hj => ?_⟩
  obtain ⟨v, hv⟩ := evc_some e j hj
  have := hc j hj
  rw [hv] at this ⊢
  exact (hb.cell (World.block_lt_of_cell? w _ this)).trans this
theorem EsAt.read {w : World} {b off : Nat} {l : List Ev} {k : Nat} {e : Ev} (h : EsAt w (some ⟨b, off, none⟩) l) (hk : l[k]? = some e) : w.cell? ⟨b, off + k * 8, none⟩ = some (.int .i64 e.k) ∧ w.cell? ⟨b, off + k * 8 + 1, none⟩ = some (.int .i64 e.g) ∧ w.cell? ⟨b, off + k * 8 + 2, none⟩ = some (.int .i64 e.c) ∧ w.cell? ⟨b, off + k * 8 + 3, none⟩ = some (.int .i64 e.a) ∧ w.cell? ⟨b, off + k * 8 + 4, none⟩ = some (.int .i64 e.v) ∧ w.cell? ⟨b, off + k * 8 + 5, none⟩ = some (.int .i64 e.m) ∧ w.cell? ⟨b, off + k * 8 + 6, none⟩ = some (.bool e.s) ∧ w.cell? ⟨b, off + k * 8 + 7, none⟩ = some (.bool e.o) := by
  obtain ⟨b', off', he, hc⟩ := h k e hk
  cases he
  exact ⟨hc 0 (by decide), hc 1 (by decide), hc 2 (by decide), hc 3 (by decide), hc 4 (by decide), hc 5 (by decide), hc 6 (by decide), hc 7 (by decide)⟩
def ccs (l : List De.Cs) : List Value := l.flatMap fun x => [.bool x.send, .int .i64 x.ch, .int .i64 x.val]
theorem ccs_len (l : List De.Cs) : (ccs l).length = l.length * 3 := by
  induction l with
  | nil => rfl
  | cons x l ih => simp [ccs] at ih ⊢; omega
theorem ccs_at : ∀ (l : List De.Cs) (k : Nat) (x : De.Cs), l[k]? = some x → (ccs l)[k * 3]? = some (.bool x.send) ∧ (ccs l)[k * 3 + 1]? = some (.int .i64 x.ch) ∧ (ccs l)[k * 3 + 2]? = some (.int .i64 x.val)
  | [], k, x, h => by simp at h
  | y :: l, 0, x, h => by
    simp at h
    subst h
    simp [ccs]
  | y :: l, k + 1, x, h => by
    have ih := ccs_at l k x (by simpa using h)
    have e : ccs (y :: l) = .bool y.send :: .int .i64 y.ch :: .int .i64 y.val :: ccs l := rfl
    rw [e, show (k + 1) * 3 = k * 3 + 1 + 1 + 1 by omega]
    simpa using ih
theorem ccs_one (l : List De.Cs) : ∀ u ∈ ccs l, u.oneCell' = true := by
  intro u hu
  simp only [ccs, List.mem_flatMap] at hu
  obtain ⟨e, _, hu⟩ := hu
  simp at hu
  rcases hu with rfl | rfl | rfl <;> rfl
theorem ec_at : ∀ (l : List Ev) (k : Nat) (e : Ev), l[k]? = some e → ∀ r, r < 8 → (ec l)[k * 8 + r]? = (En.evc e)[r]?
  | [], k, e, h, r, hr => by simp at h
  | y :: l, 0, e, h, r, hr => by
    simp at h
    subst h
    have e1 : ec (y :: l) = (En.evc y).toList ++ ec l := rfl
    rw [e1, Nat.zero_mul, Nat.zero_add, List.getElem?_append_left (by simp [En.evc]; omega)]
    simp
  | y :: l, k + 1, e, h, r, hr => by
    have ih := ec_at l k e (by simpa using h) r hr
    have e1 : ec (y :: l) = (En.evc y).toList ++ ec l := rfl
    rw [e1, List.getElem?_append_right (by simp [En.evc]; omega), ← ih]
    congr 1
    simp [En.evc]
    omega
theorem cat_cs {w : World} {oa : Option Addr} {cs : List De.Cs} (h : De.CAt w oa cs) : CsAt w oa (ccs cs) := by
  intro j v hj
  have hl := (List.getElem?_eq_some_iff.1 hj).1
  rw [ccs_len] at hl
  have hk : j / 3 < cs.length := by omega
  obtain ⟨b, off, e, h0, h1, h2⟩ := h (j / 3) cs[j / 3] (List.getElem?_eq_getElem hk)
  obtain ⟨q0, q1, q2⟩ := ccs_at cs (j / 3) cs[j / 3] (List.getElem?_eq_getElem hk)
  refine ⟨b, off, e, ?_⟩
  rcases (show j = j / 3 * 3 ∨ j = j / 3 * 3 + 1 ∨ j = j / 3 * 3 + 2 by omega) with z | z | z
  · rw [← z] at q0 h0
    rw [hj] at q0
    cases q0
    exact h0
  · rw [← z] at q1
    rw [show off + j / 3 * 3 + 1 = off + j by omega] at h1
    rw [hj] at q1
    cases q1
    exact h1
  · rw [← z] at q2
    rw [show off + j / 3 * 3 + 2 = off + j by omega] at h2
    rw [hj] at q2
    cases q2
    exact h2
theorem cs_cat {w : World} {b : Nat} {cs : List De.Cs} (h : ∀ j v, (ccs cs)[j]? = some v → w.cell? ⟨b, j, none⟩ = some v) : De.CAt w (some ⟨b, 0, none⟩) cs := by
  intro k x hk
  obtain ⟨q0, q1, q2⟩ := ccs_at cs k x hk
  refine ⟨b, 0, rfl, ?_, ?_, ?_⟩
  · rw [Nat.zero_add]; exact h _ _ q0
  · rw [Nat.zero_add]; exact h _ _ q1
  · rw [Nat.zero_add]; exact h _ _ q2
theorem es_cs {w : World} {oa : Option Addr} {l : List Ev} (h : EsAt w oa l) : CsAt w oa (ec l) := by
  intro j v hj
  have hl := (List.getElem?_eq_some_iff.1 hj).1
  rw [ec_len] at hl
  have hk : j / 8 < l.length := by omega
  obtain ⟨b, off, e, hc⟩ := h (j / 8) l[j / 8] (List.getElem?_eq_getElem hk)
  refine ⟨b, off, e, ?_⟩
  have h1 := ec_at l (j / 8) l[j / 8] (List.getElem?_eq_getElem hk) (j % 8) (by omega)
  have h2 := hc (j % 8) (by omega)
  rw [show j / 8 * 8 + j % 8 = j by omega, hj] at h1
  rw [show off + j / 8 * 8 + j % 8 = off + j by omega, ← h1] at h2
  exact h2
theorem cs_es {w : World} {b off : Nat} {l : List Ev} (h : ∀ j v, (ec l)[j]? = some v → w.cell? ⟨b, off + j, none⟩ = some v) : EsAt w (some ⟨b, off, none⟩) l := by
  intro k e hk
  refine ⟨b, off, rfl, fun j hj => ?_⟩
  have h1 := ec_at l k e hk j hj
  obtain ⟨v, hv⟩ := evc_some e j hj
  rw [hv] at h1 ⊢
  rw [Nat.add_assoc]
  exact h _ _ h1
theorem own_zero (w : World) (t : TypeId) (z : Nat) : (w.alloc (.cells #[] t)).ownsRow w.heap.size t z (.slice (some ⟨w.heap.size, 0, none⟩) 0 0) 0 [] := by
  refine ⟨by simp, .inr ⟨w.heap.size, 0, #[], rfl, Nat.le_refl _, heap_new _ _, Nat.le_refl _, by unfold maxLen; omega, by simp, by simp⟩⟩
theorem own_es {w : World} {base : Nat} {v : Value} {l : List Ev} (h : w.ownsRow base 66 8 v l.length (ec l)) : ∃ ob d, v = .slice ob l.length d ∧ EsAt w ob l ∧ l.length ≤ d ∧ ∀ a, ob = some a → base ≤ a.block := by
  rcases h.2 with ⟨rfl, h0⟩ | ⟨g, cap, cur, rfl, hbase, hg, hc, _, hcs, htk⟩
  · obtain rfl := List.eq_nil_of_length_eq_zero h0
    exact ⟨none, 0, rfl, EsAt.nil _ _, Nat.le_refl _, fun a e => by cases e⟩
  · refine ⟨_, cap, rfl, cs_es fun j v hj => ?_, by omega, fun a e => by cases e; exact hbase⟩
    have hjl := (List.getElem?_eq_some_iff.1 hj).1
    rw [ec_len] at hjl
    rw [Nat.zero_add, cell_of hg]
    rw [← htk, List.getElem?_take_of_lt (by omega)] at hj
    simpa using hj
theorem own_ca {w : World} {base : Nat} {v : Value} {l : List De.Cs} (h : w.ownsRow base 92 3 v l.length (ccs l)) : ∃ ob d, v = .slice ob l.length d ∧ De.CAt w ob l ∧ ∀ a, ob = some a → base ≤ a.block := by
  rcases h.2 with ⟨rfl, h0⟩ | ⟨g, cap, cur, rfl, hbase, hg, hc, _, hcs, htk⟩
  · obtain rfl := List.eq_nil_of_length_eq_zero h0
    exact ⟨none, 0, rfl, (fun k x hk => by simp at hk), fun a e => by cases e⟩
  · refine ⟨_, cap, rfl, cs_cat fun j v hj => ?_, fun a e => by cases e; exact hbase⟩
    have hjl := (List.getElem?_eq_some_iff.1 hj).1
    rw [ccs_len] at hjl
    rw [cell_of hg]
    rw [← htk, List.getElem?_take_of_lt (by omega)] at hj
    simpa using hj
theorem info_case : (Tryz.prog.info? 92).map (fun i => (i.zero, i.size, i.bytes)) = some (some (.agg #[.bool false, .int .i64 0, .int .i64 0]), 3, 24) := by kernel_rfl
theorem info_parts {P : Program} {t : TypeId} {z : Value} {n m : Nat} (h : (P.info? t).map (fun i => (i.zero, i.size, i.bytes)) = some (some z, n, m)) : ∃ i, P.info? t = some i ∧ i.zero = some z ∧ i.size = n ∧ i.bytes = m := by
  cases hi : P.info? t with
  | none => rw [hi] at h; cases h
  | some i =>
    rw [hi] at h
    simp at h
    exact ⟨i, rfl, h⟩
set_option maxRecDepth 100000 in
set_option maxHeartbeats 1600000 in
theorem clone_es (oa : Option Addr) (l : List Ev) (c : Nat) (w : World) (h : EsAt w oa l) (hl : l.length ≤ 1000000) :
    Calls Tryz.prog 43 #[.slice oa l.length c] w fun r w' => ∃ ob d, r = .returned (.slice ob l.length d) ∧ EsAt w' ob l ∧ (l.length ≤ d ∧ ∀ a, ob = some a → w.heap.size ≤ a.block) ∧ Below w.heap.size w w' := by
  have qn : ∀ (w : World) (a : Option Addr) (n c n' c' : Nat), (binOp .eql 28 (.slice a n c) (.slice none n' c')).run Tryz.prog w = .ok (.bool a.isNone) w := fun w a n c n' c' => Lib.run_eql_slice_nil w _ _ a n c n' c' Tryz.underlying28
  cases oa with
  | none =>
    have h0 : l.length = 0 := by
      rcases Nat.eq_zero_or_pos l.length with e | e
      · exact e
      · obtain ⟨b, off, e2, _⟩ := h 0 l[0] (List.getElem?_eq_getElem e)
        cases e2
    obtain rfl := List.eq_nil_of_length_eq_zero h0
    go_enter Tryz.func43, Tryz.ntmps43
    go_wp2_with fail
    go_ret
    exact ⟨none, 0, rfl, EsAt.nil _ _, ⟨Nat.le_refl _, fun a e => by cases e⟩, Below.refl _ _⟩
  | some ad =>
    have HS := hide (es_cs (h.below (below_alloc w (.cells #[] 66))))
    obtain ⟨i0, hi, hz0, hz1, hz2⟩ := info_parts info_ev
    have INF := hide (And.intro hi (And.intro hz0 (And.intro hz1 hz2)))
    have ow0 : (w.alloc (.cells #[] 66)).ownsRow w.heap.size 66 8 (.slice (some ⟨w.heap.size, 0, none⟩) 0 0) 0 [] := own_zero w 66 8
    clear h hi hz0 hz1 hz2
    go_enter Tryz.func43, Tryz.ntmps43
    go_wp2_with (at_builtin; refine wpList_append_own_at _ rfl _ _ 28 rfl w.heap.size 66 i0 _ 8 56 Tryz.underlying28 INF.out.1 INF.out.2.1 INF.out.2.2.1 INF.out.2.2.2 rfl (by decide) _ _ _ rfl ow0 ad l.length c (ec l) rfl (ec_len l) ?c1 (ec_one l) ?c3 ?c4 ?c5 ?_)
    case c1 =>
      intro j u hj
      obtain ⟨b, off, e, hc⟩ := HS.out j u hj
      cases e
      rw [Addr.add_lit]
      exact hc
    case c3 => unfold maxLen; omega
    case c4 => omega
    case c5 => rw [World.size_alloc]; omega
    intro v' w2 ho hg _ hat
    obtain ⟨ob, d, hv, hA, hB⟩ := own_es ho
    subst hv
    have B2 : Below w.heap.size w w2 := by
      have ba := below_alloc w (.cells #[] 66)
      refine ⟨hg.os.trans ba.os, hg.tape.trans ba.tape, hg.output.trans ba.output, Nat.le_trans ba.size hg.size, fun x hx => ?_⟩
      refine (hg.block x (by rw [World.size_alloc]; omega) (fun e => ?_)).trans (ba.block x hx)
      have e' : x = w.heap.size := by simpa [Value.ownBlock] using e
      omega
    have HB2 := hide B2
    have HA := hide hA
    have HBl := hide hB
    clear ho hg hat B2 hA hB ow0
    go_wp2_with fail
    go_ret
    exact ⟨ob, d, rfl, HA.out, HBl.out, HB2.out⟩
set_option maxRecDepth 100000 in
set_option maxHeartbeats 1600000 in
theorem clone_ca (oa : Option Addr) (l : List De.Cs) (c : Nat) (w : World) (h : De.CAt w oa l) (hl : l.length ≤ 1000000) :
    Calls Tryz.prog 67 #[.slice oa l.length c] w fun r w' => ∃ ob d, r = .returned (.slice ob l.length d) ∧ De.CAt w' ob l ∧ (∀ a, ob = some a → w.heap.size ≤ a.block) ∧ Below w.heap.size w w' := by
  have qn : ∀ (w : World) (a : Option Addr) (n c n' c' : Nat), (binOp .eql 42 (.slice a n c) (.slice none n' c')).run Tryz.prog w = .ok (.bool a.isNone) w := fun w a n c n' c' => Lib.run_eql_slice_nil w _ _ a n c n' c' Tryz.underlying42
  cases oa with
  | none =>
    have h0 : l.length = 0 := by
      rcases Nat.eq_zero_or_pos l.length with e | e
      · exact e
      · obtain ⟨b, off, e2, _⟩ := h 0 l[0] (List.getElem?_eq_getElem e)
        cases e2
    obtain rfl := List.eq_nil_of_length_eq_zero h0
    go_enter Tryz.func67, Tryz.ntmps67
    go_wp2_with fail
    go_ret
    exact ⟨none, 0, rfl, (fun k x hk => by simp at hk), (fun a e => by cases e), Below.refl _ _⟩
  | some ad =>
    have HS := hide (cat_cs (h.below (below_alloc w (.cells #[] 92))))
    obtain ⟨i0, hi, hz0, hz1, hz2⟩ := info_parts info_case
    have INF := hide (And.intro hi (And.intro hz0 (And.intro hz1 hz2)))
    have ow0 : (w.alloc (.cells #[] 92)).ownsRow w.heap.size 92 3 (.slice (some ⟨w.heap.size, 0, none⟩) 0 0) 0 [] := own_zero w 92 3
    clear h hi hz0 hz1 hz2
    go_enter Tryz.func67, Tryz.ntmps67
    go_wp2_with (at_builtin; refine wpList_append_own_at _ rfl _ _ 42 rfl w.heap.size 92 i0 _ 3 24 Tryz.underlying42 INF.out.1 INF.out.2.1 INF.out.2.2.1 INF.out.2.2.2 rfl (by decide) _ _ _ rfl ow0 ad l.length c (ccs l) rfl (ccs_len l) ?c1 (ccs_one l) ?c3 ?c4 ?c5 ?_)
    case c1 =>
      intro j u hj
      obtain ⟨b, off, e, hc⟩ := HS.out j u hj
      cases e
      rw [Addr.add_lit]
      exact hc
    case c3 => unfold maxLen; omega
    case c4 => omega
    case c5 => rw [World.size_alloc]; omega
    intro v' w2 ho hg _ hat
    obtain ⟨ob, d, hv, hA, hB⟩ := own_ca ho
    subst hv
    have B2 : Below w.heap.size w w2 := by
      have ba := below_alloc w (.cells #[] 92)
      refine ⟨hg.os.trans ba.os, hg.tape.trans ba.tape, hg.output.trans ba.output, Nat.le_trans ba.size hg.size, fun x hx => ?_⟩
      refine (hg.block x (by rw [World.size_alloc]; omega) (fun e => ?_)).trans (ba.block x hx)
      have e' : x = w.heap.size := by simpa [Value.ownBlock] using e
      omega
    have HB2 := hide B2
    have HA := hide hA
    have HBl := hide hB
    clear ho hg hat B2 hA hB ow0
    go_wp2_with fail
    go_ret
    exact ⟨ob, d, rfl, HA.out, HBl.out, HB2.out⟩
end Lo
end Go.Proofs.YtddchcekljndmaaGreat
/- A loom's do of whatever operation; Verdict, operation, over this seat's program. -/
namespace Go.Proofs.YtddchcekljndmaaGreat
open Go.ChangeShapes Go.WideShapes Go.ChangeAt Go.RowKit
namespace Lo
open Ba

/-- an operation as a value, its cases at oc -/
def opV (o : OpD) (oc : Option Addr) (cc : Nat) : Value := .agg #[.int .i64 o.kind, .int .i64 o.a, .int .i64 o.b, .slice oc o.cases.length cc, .bool o.def_]
theorem do_any (L : Nat) (col : Nat → Nat) (s : Lm) (K : Nat) (g : Int) (o : OpD) (oc : Option Addr) (cc : Nat) (w : World) (n : Int) (h : LW w col L s) (ok : Ok K s) (hK : K ≤ 90000) (ho : De.chk o n = 0) (hC : De.CAt w oc o.cases) (hCc : 0 < o.cases.length → ∀ a, oc = some a → col a.block = 7) :
    Calls Tryz.prog 42 #[.pointer (some ⟨L, 0, none⟩), .int .i64 g, opV o oc cc] w fun r w' => r = .returned (.tuple #[]) ∧ ∃ col', LW w' col' L (doF s g o) ∧ Tr col col' w w' := by
  obtain ⟨kind, a, b, cs, df⟩ := o
  obtain ⟨-, hk, h4, ha, hb, -, hcs⟩ := op_ok ho
  simp only at hk h4 ha hb hcs hC hCc
  unfold opV
  simp only
  rcases (show kind = 1 ∨ kind = 2 ∨ kind = 3 ∨ kind = 4 ∨ kind = 5 ∨ kind = 6 ∨ kind = 7 ∨ kind = 8 ∨ kind = 9 by omega) with rfl | rfl | rfl | rfl | rfl | rfl | rfl | rfl | rfl
  · exact do_1 L col s K g a b oc cs.length cc df w h ok hK
  · simp [De.mA, De.mB] at ha hb
    obtain ⟨k, rfl⟩ : ∃ k : Nat, a = (k : Int) := ⟨a.toNat, by omega⟩
    obtain ⟨z, rfl⟩ : ∃ z : Nat, b = (z : Int) := ⟨b.toNat, by omega⟩
    exact do_2 L col s K g k z oc cs.length cc df w h ok hK (by omega) (by omega)
  · simp [De.mA] at ha
    obtain ⟨k, rfl⟩ : ∃ k : Nat, a = (k : Int) := ⟨a.toNat, by omega⟩
    exact do_3 L col s K g k b oc cs.length cc df w h ok hK (by omega)
  · simp [De.mA] at ha
    obtain ⟨k, rfl⟩ : ∃ k : Nat, a = (k : Int) := ⟨a.toNat, by omega⟩
    exact do_4 L col s K g k b oc cs.length cc df w h ok hK (by omega)
  · simp [De.mA] at ha
    obtain ⟨k, rfl⟩ : ∃ k : Nat, a = (k : Int) := ⟨a.toNat, by omega⟩
    exact do_5 L col s K g k b oc cs.length cc df w h ok hK (by omega)
  · exact do_6 L col s K g a b oc cs cc df w h ok hK hC hCc h4 (fun c hc => (hcs c hc).1)
  · exact do_7 L col s K g a b oc cs.length cc df w h ok hK
  · exact do_8 L col s K g a b oc cs.length cc df w h ok hK
  · exact do_9 L col s K g a b oc cs.length cc df w h ok hK
set_option maxRecDepth 100000 in
set_option maxHeartbeats 1600000 in
theorem verdict_any (L : Nat) (col : Nat → Nat) (s : Lm) (K : Nat) (w : World) (h : LW w col L s) (hb : Cr.Bn K s.cr) :
    Calls Tryz.prog 14 #[.pointer (some ⟨L, 0, none⟩)] w fun r w' => r = .returned (.int .i64 (verd s)) ∧ Below w.heap.size w w' := by
  obtain ⟨N, C, B, X, FB, pa, pc, bs, Fs, ta, tc, h⟩ := h
  obtain ⟨-, y1, y2, -, -, -, y14⟩ := h.cells
  unfold verd
  cases hp : s.pk
  · rw [hp] at y14
    simp only [Bool.false_eq_true, if_false]
    have OV := hide (Cr.over_any B FB s.cr K w h.cr hb)
    have H := hide h
    generalize Cr.ovr s.cr = ov at OV ⊢
    have LE := hide (fun u (hb : Below w.heap.size w u) => Pk.left_any C s.p s.d u (H.out.cu.below hb).cur)
    have hL := h.lt
    clear h
    by_cases h0 : ov = 0
    · subst h0
      simp only [ne_eq, not_true, if_false]
      have Y1 := hide (fun u (hb : Below w.heap.size w u) => cell_of (heap_below H.out.hp hb) 1)
      by_cases hl : s.p.length = 0
      · rw [if_pos hl]
        rw [hl] at LE
        go_enter Tryz.func14, Tryz.ntmps14
        go_wp2_with fail
        refine OV.out.mono ?_
        rintro r w1 ⟨rfl, b1⟩
        have z1 := Y1.out w1 b1
        simp [lcs] at z1
        have B1 := hide b1
        clear b1
        go_wp2_with fail
        refine (LE.out _ B1.out).mono ?_
        rintro r w2 ⟨rfl, b2⟩
        have B2 := hide (btr B1.out b2)
        clear b2
        go_wp2_with fail
        go_ret
        exact ⟨rfl, B2.out⟩
      · rw [if_neg hl]
        have hl' : (((s.p.length : Nat) : Int) == 0) = false := by rw [beq_eq_false_iff_ne]; omega
        go_enter Tryz.func14, Tryz.ntmps14
        go_wp2_with fail
        refine OV.out.mono ?_
        rintro r w1 ⟨rfl, b1⟩
        have z1 := Y1.out w1 b1
        simp [lcs] at z1
        have B1 := hide b1
        clear b1
        go_wp2_with fail
        refine (LE.out _ B1.out).mono ?_
        rintro r w2 ⟨rfl, b2⟩
        have B2 := hide (btr B1.out b2)
        clear b2
        go_wp2_with fail
        go_ret
        exact ⟨rfl, B2.out⟩
    · rw [if_pos h0]
      have h0' : (ov != 0) = true := by simp [h0]
      go_enter Tryz.func14, Tryz.ntmps14
      go_wp2_with fail
      refine OV.out.mono ?_
      rintro r w1 ⟨rfl, b1⟩
      have B1 := hide b1
      clear b1
      go_wp2_with fail
      go_ret
      exact ⟨rfl, B1.out⟩
  · rw [hp] at y14
    simp only [if_true]
    clear h
    go_enter Tryz.func14, Tryz.ntmps14
    go_wp2_with fail
    go_ret
    exact ⟨rfl, Below.refl _ _⟩
theorem verdict_nil (w : World) : Calls Tryz.prog 14 #[.pointer none] w fun r w' => r = .returned (.int .i64 0) ∧ w' = w := by
  go_enter Tryz.func14, Tryz.ntmps14
  go_wp2_with fail
  go_ret
  exact ⟨rfl, rfl⟩
theorem size_op : (Tryz.prog.info? 44).map (·.size) = some 5 := by kernel_rfl
theorem loadVar_op {w : World} {b : Nat} {c : Array Value} {t : TypeId} (h : w.heap[b]? = some (.cells c t (0, 0))) (hc : c.size = 5) : (loadVar 44 ⟨b, 0, none⟩).run Tryz.prog w = .ok (.agg c) w :=
  run_loadVar_row w b t _ _ _ _ h Tryz.underlying44 rfl (by rw [size_op, hc])
theorem set5 {w : World} {b : Nat} {t : TypeId} {a0 a1 a2 a3 a4 u0 u1 u2 u3 u4 : Value} (h : w.heap[b]? = some (.cells #[a0, a1, a2, a3, a4] t (0, 0))) : (((((w.setCell ⟨b, 0, none⟩ u0).setCell ⟨b, 1, none⟩ u1).setCell ⟨b, 2, none⟩ u2).setCell ⟨b, 3, none⟩ u3).setCell ⟨b, 4, none⟩ u4).heap[b]? = some (.cells #[u0, u1, u2, u3, u4] t (0, 0)) :=
  (Ba.heap_setCell_same (Ba.heap_setCell_same (Ba.heap_setCell_same (Ba.heap_setCell_same (Ba.heap_setCell_same h _) _) _) _) _).trans rfl
theorem cat_keep {w w' : World} {oc : Option Addr} {cs : List De.Cs} (h : De.CAt w oc cs) (hk : ∀ a, oc = some a → a.block < w.heap.size → w'.heap[a.block]? = w.heap[a.block]?) : De.CAt w' oc cs := by
  intro k x hx
  obtain ⟨b, off, e, h0, h1, h2⟩ := h k x hx
  have := hk _ e (World.block_lt_of_cell? w ⟨b, off + k * 3, none⟩ h0)
  simp only at this
  refine ⟨b, off, e, ?_, ?_, ?_⟩
  · rw [← h0]; simp only [World.cell?, this]
  · rw [← h1]; simp only [World.cell?, this]
  · rw [← h2]; simp only [World.cell?, this]
set_option maxRecDepth 100000 in
set_option maxHeartbeats 1600000 in
theorem oper_any (L : Nat) (col : Nat → Nat) (s : Lm) (g : Int) (p q : Nat) (w : World) (h : LW w col L s) (hp : (Cr.one0 (Cr.gt s.cr g)).p = (p : Int)) (hq : (Cr.one0 (Cr.gt s.cr g)).q = (q : Int)) (hpl : p < s.ps.length) (hs4 : ∀ x ∈ s.ps, ∀ o ∈ x, o.cases.length ≤ 4) :
    Calls Tryz.prog 35 #[.pointer (some ⟨L, 0, none⟩), .int .i64 g] w fun r w' => ∃ oc cc, r = .returned (opV (opOf s g) oc cc) ∧ De.CAt w' oc (opOf s g).cases ∧ (∀ a, oc = some a → w.heap.size ≤ a.block) ∧ Below w.heap.size w w' := by
  obtain ⟨N, C, B, X, FB, pa, pc, bs, Fs, ta, tc, h⟩ := h
  obtain ⟨P, hP⟩ : ∃ P, s.ps[p]? = some P := ⟨_, List.getElem?_eq_getElem hpl⟩
  have hPm : P ∈ s.ps := List.mem_of_getElem? hP
  have PA := hide (h.ps w (fun _ _ _ => rfl))
  have AT := hide (Cr.at_any B FB s.cr g (w.alloc (.cells #[.int .i64 0, .int .i64 0, .int .i64 0, .slice none 0 0, .bool false] 44)) (h.cr.below (below_alloc _ _)))
  rw [hp, hq] at AT
  obtain ⟨y0, -, y2, -⟩ := h.cells
  have hL := h.lt
  have e : opOf s g = (P[q]?).getD exitO := by
    unfold opOf
    rw [hp, hq, Int.toNat_natCast, Int.toNat_natCast, hP]
    rfl
  rw [e]
  obtain ⟨pb, po, qa, qc, hpa, hpc, hO, hPl⟩ := PA.out p P hP
  subst hpa
  have p0 : (0 : Int) ≤ (p : Int) := by omega
  have p1 : (p : Int) < (s.ps.length : Int) := by omega
  clear h
  by_cases hlt : q < P.length
  · obtain ⟨o, hoq⟩ : ∃ o, P[q]? = some o := ⟨_, List.getElem?_eq_getElem hlt⟩
    rw [hoq]
    simp only [Option.getD_some]
    obtain ⟨ob, oo, ca, cc, hqa, ⟨k0, k1, k2, k3, k4⟩, hCA, -⟩ := hO q o hoq
    subst hqa
    have h4 := hs4 P hPm o (List.mem_of_getElem? hoq)
    have hq1 : ¬ ((P.length : Int) ≤ (q : Int)) := by omega
    have hq2 : (q : Int) < (P.length : Int) := by omega
    have hq0 : (0 : Int) ≤ (q : Int) := by omega
    have CA := hide hCA
    clear hCA hO
    go_enter Tryz.func35, Tryz.ntmps35
    go_wp2_with fail
    refine AT.out.mono ?_
    rintro r w1 ⟨rfl, b1⟩
    have bb := btr (below_alloc w (.cells #[.int .i64 0, .int .i64 0, .int .i64 0, .slice none 0 0, .bool false] 44)) b1
    have z0 := Sh.cellB y0 bb
    have zp := Sh.cellB hpc bb
    have m0 := Sh.cellB k0 bb
    have m1 := Sh.cellB k1 bb
    have m2 := Sh.cellB k2 bb
    have m3 := Sh.cellB k3 bb
    have m4 := Sh.cellB k4 bb
    have Z1 := hide (heap_below (heap_new w (.cells #[.int .i64 0, .int .i64 0, .int .i64 0, .slice none 0 0, .bool false] 44)) b1)
    have BB := hide bb
    have CA1 := hide (CA.out.below bb)
    have hz1 := heap_lt Z1.out
    have CL := hide (clone_ca ca o.cases cc (w1.alloc (.cells #[.int .i64 o.kind, .int .i64 o.a, .int .i64 o.b, .slice ca o.cases.length cc, .bool o.def_] 44)) (CA1.out.below (below_alloc _ _)) (by omega))
    clear b1 bb AT PA y0 y2 hpc k0 k1 k2 k3 k4 CA
    go_wp2_with fail
    refine CL.out.mono ?_
    rintro r w3 ⟨oc, d, rfl, hc3, hn3, b3⟩
    have Z3 := hide (heap_below Z1.out (btr (below_alloc _ _) b3))
    have V3 := hide (heap_below (heap_new w1 (.cells #[.int .i64 o.kind, .int .i64 o.a, .int .i64 o.b, .slice ca o.cases.length cc, .bool o.def_] 44)) b3)
    have x0 := cell_of V3.out 0
    have x1 := cell_of V3.out 1
    have x2 := cell_of V3.out 2
    have x3 := cell_of V3.out 3
    have x4 := cell_of V3.out 4
    have xf := frozen_of V3.out 3
    have r0 := cell_of Z3.out 0
    have r1 := cell_of Z3.out 1
    have r2 := cell_of Z3.out 2
    have r3 := cell_of Z3.out 3
    have r4 := cell_of Z3.out 4
    have f0 := frozen_of Z3.out 0
    have f1 := frozen_of Z3.out 1
    have f2 := frozen_of Z3.out 2
    have f3 := frozen_of Z3.out 3
    have f4 := frozen_of Z3.out 4
    simp at x0 x1 x2 x3 x4 r0 r1 r2 r3 r4
    have hne : w.heap.size ≠ w1.heap.size := by omega
    have C3 := hide hc3
    rw [World.size_alloc] at hn3
    have N3 := hide hn3
    have B3 := hide (btr BB.out (btr (below_alloc _ _) b3))
    clear hc3 hn3 b3 CL z0 zp m0 m1 m2 m3 m4 CA1
    generalize w1.heap.size = Vb at *
    go_wp2_with fail
    have Z4 := ((KB.refl Vb w3).setCell 3 (.slice oc o.cases.length d)).heap Z3.out hne
    refine bodyPost_ret (En.results_row1 Tryz.results35 _ _ _ _ rfl (loadVar_op (set5 Z4) rfl)) rfl ⟨oc, d, rfl, ?_, ?_, ?_⟩
    · have K1 := (KB.refl Vb w3).setCell 3 (.slice oc o.cases.length d)
      have K2 := (((((KB.refl w.heap.size (w3.setCell ⟨Vb, 3, none⟩ (.slice oc o.cases.length d))).setCell 0 (.int .i64 o.kind)).setCell 1 (.int .i64 o.a)).setCell 2 (.int .i64 o.b)).setCell 3 (.slice oc o.cases.length d)).setCell 4 (.bool o.def_)
      refine cat_keep C3.out fun a e hl => ?_
      have := N3.out a e
      exact (K2.block _ (Nat.lt_of_lt_of_le hl K1.size) (by omega)).trans (K1.block _ hl (by omega))
    · intro a e
      have := N3.out a e
      omega
    · have := B3.out.setCell (p := ⟨Vb, 3, none⟩) (by show w.heap.size ≤ Vb; omega) (.slice oc o.cases.length d)
      exact ((((this.setCell (p := ⟨w.heap.size, 0, none⟩) (Nat.le_refl _) _).setCell (p := ⟨w.heap.size, 1, none⟩) (Nat.le_refl _) _).setCell (p := ⟨w.heap.size, 2, none⟩) (Nat.le_refl _) _).setCell (p := ⟨w.heap.size, 3, none⟩) (Nat.le_refl _) _).setCell (p := ⟨w.heap.size, 4, none⟩) (Nat.le_refl _) _
  · rw [List.getElem?_eq_none (by omega)]
    simp only [Option.getD_none]
    have hq1 : (P.length : Int) ≤ (q : Int) := by omega
    go_enter Tryz.func35, Tryz.ntmps35
    go_wp2_with fail
    refine AT.out.mono ?_
    rintro r w1 ⟨rfl, b1⟩
    have bb := btr (below_alloc w (.cells #[.int .i64 0, .int .i64 0, .int .i64 0, .slice none 0 0, .bool false] 44)) b1
    have z0 := Sh.cellB y0 bb
    have zp := Sh.cellB hpc bb
    have Z3 := hide (heap_below (heap_new w (.cells #[.int .i64 0, .int .i64 0, .int .i64 0, .slice none 0 0, .bool false] 44)) b1)
    have r0 := cell_of Z3.out 0
    have r1 := cell_of Z3.out 1
    have r2 := cell_of Z3.out 2
    have r3 := cell_of Z3.out 3
    have r4 := cell_of Z3.out 4
    have f0 := frozen_of Z3.out 0
    have f1 := frozen_of Z3.out 1
    have f2 := frozen_of Z3.out 2
    have f3 := frozen_of Z3.out 3
    have f4 := frozen_of Z3.out 4
    simp at r0 r1 r2 r3 r4
    have BB := hide bb
    clear b1 bb AT PA y0 y2 hpc hO
    go_wp2_with fail
    refine bodyPost_ret (En.results_row1 Tryz.results35 _ _ _ _ rfl (loadVar_op (set5 Z3.out) rfl)) rfl ⟨none, 0, rfl, (fun k x hk => by simp [exitO] at hk), (fun a e => by cases e), ?_⟩
    exact ((((BB.out.setCell (p := ⟨w.heap.size, 0, none⟩) (Nat.le_refl _) _).setCell (p := ⟨w.heap.size, 1, none⟩) (Nat.le_refl _) _).setCell (p := ⟨w.heap.size, 2, none⟩) (Nat.le_refl _) _).setCell (p := ⟨w.heap.size, 3, none⟩) (Nat.le_refl _) _).setCell (p := ⟨w.heap.size, 4, none⟩) (Nat.le_refl _) _
end Lo
end Go.Proofs.YtddchcekljndmaaGreat
/- A loom's Next, over this seat's program. -/
namespace Go.Proofs.YtddchcekljndmaaGreat
open Go.ChangeShapes Go.WideShapes Go.ChangeAt Go.RowKit
namespace Lo
open Ba

theorem results_tct {fn : Func} {p u v : Tmp} {ty : TypeId} (h : fn.results = #[.tmp u, .cell p ty, .tmp v]) (tmps : Array Value) (w : World) (g : Nat) (cs : Array Value) (x y : Value)
    (hx : tmps.getD u undef = x) (hp : tmps.getD p undef = .pointer (some ⟨g, 0, none⟩)) (hy : tmps.getD v undef = y) (hl : (loadVar ty ⟨g, 0, none⟩).run Tryz.prog w = .ok (.agg cs) w) :
    (results fn tmps).run Tryz.prog w = .ok (.tuple #[x, .agg cs, y]) w := by
  subst hx
  subst hy
  have hp' : tmps[p]?.getD undef = .pointer (some ⟨g, 0, none⟩) := by simpa using hp
  simp [results, h, hp', asAddr, hl]
theorem below_kb {n D : Nat} {w a b : World} (h : Below n w a) (k : KB D a b) (hD : n ≤ D) (hs : n ≤ a.heap.size) : Below n w b :=
  ⟨k.os.trans h.os, k.tape.trans h.tape, k.output.trans h.output, Nat.le_trans h.size k.size, fun x hx => (k.block x (Nat.lt_of_lt_of_le hx hs) (by omega)).trans (h.block x hx)⟩
theorem below5 {n b : Nat} {w a : World} (h : Below n w a) (hb : n ≤ b) (u0 u1 u2 u3 u4 : Value) : Below n w (((((a.setCell ⟨b, 0, none⟩ u0).setCell ⟨b, 1, none⟩ u1).setCell ⟨b, 2, none⟩ u2).setCell ⟨b, 3, none⟩ u3).setCell ⟨b, 4, none⟩ u4) :=
  ((((h.setCell (p := ⟨b, 0, none⟩) hb _).setCell (p := ⟨b, 1, none⟩) hb _).setCell (p := ⟨b, 2, none⟩) hb _).setCell (p := ⟨b, 3, none⟩) hb _).setCell (p := ⟨b, 4, none⟩) hb _
theorem next_nil (w : World) : Calls Tryz.prog 12 #[.pointer none] w fun r w' => r = .returned (.tuple #[.int .i64 0, .agg #[.int .i64 0, .int .i64 0, .int .i64 0, .slice none 0 0, .bool false], .bool false]) ∧ Below w.heap.size w w' := by
  have r0 := cell_of (heap_new w (.cells #[.int .i64 0, .int .i64 0, .int .i64 0, .slice none 0 0, .bool false] 44)) 0
  go_enter Tryz.func12, Tryz.ntmps12
  go_wp2_with fail
  exact bodyPost_ret (results_tct Tryz.results12 _ _ _ _ _ _ rfl rfl rfl (loadVar_op (heap_new _ _) rfl)) rfl ⟨rfl, below_alloc _ _⟩
set_option maxRecDepth 100000 in
set_option maxHeartbeats 1600000 in
theorem next_over (L : Nat) (col : Nat → Nat) (s : Lm) (K : Nat) (w : World) (h : LW w col L s) (hb : Cr.Bn K s.cr) (hv : verd s ≠ 0) :
    Calls Tryz.prog 12 #[.pointer (some ⟨L, 0, none⟩)] w fun r w' => r = .returned (.tuple #[.int .i64 0, .agg #[.int .i64 0, .int .i64 0, .int .i64 0, .slice none 0 0, .bool false], .bool false]) ∧ Below w.heap.size w w' := by
  obtain ⟨col1, h1, -, -⟩ := h.below (below_alloc w (.cells #[.int .i64 0, .int .i64 0, .int .i64 0, .slice none 0 0, .bool false] 44))
  have VE := hide (verdict_any L col1 s K _ h1 hb)
  clear h h1
  generalize verd s = v at VE hv
  have hv' : (v != 0) = true := by simp [hv]
  go_enter Tryz.func12, Tryz.ntmps12
  go_wp2_with fail
  refine VE.out.mono ?_
  rintro r w1 ⟨rfl, b1⟩
  have Z3 := hide (heap_below (heap_new w (.cells #[.int .i64 0, .int .i64 0, .int .i64 0, .slice none 0 0, .bool false] 44)) b1)
  have r0 := cell_of Z3.out 0
  have r1 := cell_of Z3.out 1
  have r2 := cell_of Z3.out 2
  have r3 := cell_of Z3.out 3
  have r4 := cell_of Z3.out 4
  have f0 := frozen_of Z3.out 0
  have f1 := frozen_of Z3.out 1
  have f2 := frozen_of Z3.out 2
  have f3 := frozen_of Z3.out 3
  have f4 := frozen_of Z3.out 4
  simp at r0 r1 r2 r3 r4
  have BB := hide (btr (below_alloc w (.cells #[.int .i64 0, .int .i64 0, .int .i64 0, .slice none 0 0, .bool false] 44)) b1)
  clear b1
  go_wp2_with fail
  exact bodyPost_ret (results_tct Tryz.results12 _ _ _ _ _ _ rfl rfl rfl (loadVar_op (set5 Z3.out) rfl)) rfl ⟨rfl, below5 BB.out (Nat.le_refl _) _ _ _ _ _⟩
set_option maxRecDepth 100000 in
set_option maxHeartbeats 1600000 in
theorem next_comp (L : Nat) (col : Nat → Nat) (s : Lm) (K : Nat) (w : World) (h : LW w col L s) (hb : Cr.Bn K s.cr) (hv : verd s = 0) (hl : s.p.length ≤ 1000 ∧ s.d.length ≤ 1000) (ht : nth s.p 0 = -1) :
    Calls Tryz.prog 12 #[.pointer (some ⟨L, 0, none⟩)] w fun r w' => r = .returned (.tuple #[.int .i64 (-1), .agg #[.int .i64 0, .int .i64 0, .int .i64 0, .slice none 0 0, .bool false], .bool true]) ∧ Below w.heap.size w w' := by
  obtain ⟨col1, h1, -, -⟩ := h.below (below_alloc w (.cells #[.int .i64 0, .int .i64 0, .int .i64 0, .slice none 0 0, .bool false] 44))
  have VE := hide (verdict_any L col1 s K _ h1 hb)
  rw [hv] at VE
  obtain ⟨N, C, B, X, FB, pa, pc, bs, Fs, ta, tc, h⟩ := h
  have H := hide h
  have hL := h.lt
  clear h h1
  go_enter Tryz.func12, Tryz.ntmps12
  go_wp2_with fail
  refine VE.out.mono ?_
  rintro r w1 ⟨rfl, b1⟩
  have bb := btr (below_alloc w (.cells #[.int .i64 0, .int .i64 0, .int .i64 0, .slice none 0 0, .bool false] 44)) b1
  have z1 := cell_of (heap_below H.out.hp bb) 1
  simp [lcs] at z1
  have CO := hide (Pk.copy_any C s.p s.d w1 (H.out.cu.below bb).cur hl.1 hl.2)
  have Z1 := hide (heap_below (heap_new w (.cells #[.int .i64 0, .int .i64 0, .int .i64 0, .slice none 0 0, .bool false] 44)) b1)
  have BB := hide bb
  clear b1 bb VE
  go_wp2_with fail
  refine CO.out.mono ?_
  rintro r w2 ⟨D, rfl, hD, cu2, b2⟩
  have NX := hide (Pk.next_any D s.p s.d w2 cu2)
  rw [ht] at NX
  have Z2 := hide (heap_below Z1.out b2)
  have B2 := hide (btr BB.out b2)
  have hs1 := heap_lt Z1.out
  clear cu2 b2 CO
  go_wp2_with fail
  refine NX.out.mono ?_
  rintro r w3 ⟨rfl, -, kb3⟩
  have Z3 := hide (kb3.heap Z2.out (by omega))
  have B3 := hide (below_kb B2.out kb3 (by omega) B2.out.size)
  clear kb3 NX
  have r0 := cell_of Z3.out 0
  have r1 := cell_of Z3.out 1
  have r2 := cell_of Z3.out 2
  have r3 := cell_of Z3.out 3
  have r4 := cell_of Z3.out 4
  have f0 := frozen_of Z3.out 0
  have f1 := frozen_of Z3.out 1
  have f2 := frozen_of Z3.out 2
  have f3 := frozen_of Z3.out 3
  have f4 := frozen_of Z3.out 4
  simp at r0 r1 r2 r3 r4
  go_wp2_with fail
  exact bodyPost_ret (results_tct Tryz.results12 _ _ _ _ _ _ rfl rfl rfl (loadVar_op (set5 Z3.out) rfl)) rfl ⟨rfl, below5 B3.out (Nat.le_refl _) _ _ _ _ _⟩
set_option maxRecDepth 100000 in
set_option maxHeartbeats 1600000 in
theorem next_op (L : Nat) (col : Nat → Nat) (s : Lm) (K p q : Nat) (w : World) (h : LW w col L s) (hb : Cr.Bn K s.cr) (hv : verd s = 0) (hl : s.p.length ≤ 1000 ∧ s.d.length ≤ 1000) (ht : nth s.p 0 ≠ -1)
    (hp : (Cr.one0 (Cr.gt s.cr (whoN s))).p = (p : Int)) (hq : (Cr.one0 (Cr.gt s.cr (whoN s))).q = (q : Int)) (hpl : p < s.ps.length) (hs4 : ∀ x ∈ s.ps, ∀ o ∈ x, o.cases.length ≤ 4) :
    Calls Tryz.prog 12 #[.pointer (some ⟨L, 0, none⟩)] w fun r w' => ∃ oc cc, r = .returned (.tuple #[.int .i64 (whoN s), opV (opOf s (whoN s)) oc cc, .bool true]) ∧ De.CAt w' oc (opOf s (whoN s)).cases ∧ (∀ a, oc = some a → w.heap.size ≤ a.block) ∧ Below w.heap.size w w' := by
  obtain ⟨col1, h1, -, -⟩ := h.below (below_alloc w (.cells #[.int .i64 0, .int .i64 0, .int .i64 0, .slice none 0 0, .bool false] 44))
  have VE := hide (verdict_any L col1 s K _ h1 hb)
  rw [hv] at VE
  have HL := hide h
  obtain ⟨N, C, B, X, FB, pa, pc, bs, Fs, ta, tc, h⟩ := h
  have H := hide h
  have hL := h.lt
  have hcr := h.cr.le
  have OP := hide (fun u c (q' : LW u c L s) => oper_any L c s (whoN s) p q u q' hp hq hpl hs4)
  have ht' : (nth s.p 0 == -1) = false := by simp [ht]
  have hwho : Pk.ofx (nth s.p 0) (Cr.abl s.cr) = whoN s := rfl
  clear h h1
  generalize opOf s (whoN s) = o at OP ⊢
  generalize whoN s = g at *
  generalize hT : nth s.p 0 = t at *
  go_enter Tryz.func12, Tryz.ntmps12
  go_wp2_with fail
  refine VE.out.mono ?_
  rintro r w1 ⟨rfl, b1⟩
  have bb := btr (below_alloc w (.cells #[.int .i64 0, .int .i64 0, .int .i64 0, .slice none 0 0, .bool false] 44)) b1
  have z1 := cell_of (heap_below H.out.hp bb) 1
  simp [lcs] at z1
  have CO := hide (Pk.copy_any C s.p s.d w1 (H.out.cu.below bb).cur hl.1 hl.2)
  have Z1 := hide (heap_below (heap_new w (.cells #[.int .i64 0, .int .i64 0, .int .i64 0, .slice none 0 0, .bool false] 44)) b1)
  have BB := hide bb
  clear b1 bb VE
  go_wp2_with fail
  refine CO.out.mono ?_
  rintro r w2 ⟨D, rfl, hD, cu2, b2⟩
  have NX := hide (Pk.next_any D s.p s.d w2 cu2)
  rw [hT] at NX
  have Z2 := hide (heap_below Z1.out b2)
  have B2 := hide (btr BB.out b2)
  have hs1 := heap_lt Z1.out
  clear cu2 b2 CO
  go_wp2_with fail
  refine NX.out.mono ?_
  rintro r w3 ⟨rfl, -, kb3⟩
  have Z3 := hide (kb3.heap Z2.out (by omega))
  have B3 := hide (below_kb B2.out kb3 (by omega) B2.out.size)
  clear kb3 NX
  have y2 : w3.cell? ⟨L, 2, none⟩ = some (.pointer (some ⟨B, 0, none⟩)) := cell_of (heap_below H.out.hp B3.out) 2
  have AB := hide (Cr.able_any B FB s.cr w3 (H.out.cr.below B3.out))
  have al := Cr.abl_len s.cr
  go_wp2_with fail
  refine AB.out.mono ?_
  rintro r w4 ⟨ob, d, rfl, at4, b4⟩
  have OF := hide (Pk.of_any t ob (Cr.abl s.cr) d w4 at4 (by unfold maxLen; omega))
  rw [hwho] at OF
  have Z4 := hide (heap_below Z3.out b4)
  have B4 := hide (btr B3.out b4)
  clear at4 b4 AB
  go_wp2_with fail
  refine OF.out.mono ?_
  rintro r w5 ⟨rfl, rfl⟩
  obtain ⟨col5, h5, -, -⟩ := HL.out.below B4.out
  have OP5 := hide (OP.out _ col5 h5)
  clear h5 OP OF
  go_wp2_with fail
  refine OP5.out.mono ?_
  rintro r w6 ⟨oc, cc, rfl, hc6, hn6, b6⟩
  have Z6 := hide (heap_below Z4.out b6)
  have B6 := hide (btr B4.out b6)
  have C6 := hide hc6
  have N6 : Hid (∀ a, oc = some a → w.heap.size < a.block) := fun a e => by
    have := hn6 a e
    have := heap_lt Z4.out
    omega
  clear hc6 hn6 b6 OP5
  have r0 := cell_of Z6.out 0
  have r1 := cell_of Z6.out 1
  have r2 := cell_of Z6.out 2
  have r3 := cell_of Z6.out 3
  have r4 := cell_of Z6.out 4
  have f0 := frozen_of Z6.out 0
  have f1 := frozen_of Z6.out 1
  have f2 := frozen_of Z6.out 2
  have f3 := frozen_of Z6.out 3
  have f4 := frozen_of Z6.out 4
  simp at r0 r1 r2 r3 r4
  unfold opV
  go_wp2_with fail
  refine bodyPost_ret (results_tct Tryz.results12 _ _ _ _ _ _ rfl rfl rfl (loadVar_op (set5 Z6.out) rfl)) rfl ⟨oc, cc, rfl, ?_, fun a e => Nat.le_of_lt (N6.out a e), below5 B6.out (Nat.le_refl _) _ _ _ _ _⟩
  have K2 := (((((KB.refl w.heap.size w6).setCell 0 (.int .i64 o.kind)).setCell 1 (.int .i64 o.a)).setCell 2 (.int .i64 o.b)).setCell 3 (.slice oc o.cases.length cc)).setCell 4 (.bool o.def_)
  refine cat_keep C6.out fun a e hl => ?_
  have := N6.out a e
  exact K2.block _ hl (by omega)
end Lo
end Go.Proofs.YtddchcekljndmaaGreat
/- The reference's loom: Op, over this seat's program. -/
namespace Go.Proofs.YtddchcekljndmaaGreat
open Go.ChangeShapes Go.WideShapes Go.ChangeAt Go.RowKit
namespace Rlo
open Ba Lo

set_option maxRecDepth 100000 in
set_option maxHeartbeats 1600000 in
theorem rop_any (L N : Nat) (col : Nat → Nat) (s : Lm) (k p q : Nat) (xs : Int) (w : World) (h : RW w col L N s) (hx : s.cr[k]? = some ⟨p, q, xs⟩) (hpl : p < s.ps.length) :
    Calls Tryz.prog 17 #[.pointer (some ⟨L, 0, none⟩), .int .i64 (k : Int)] w fun r w' => ∃ oc cc, r = .returned (opV (opOf s k) oc cc) ∧ De.CAt w' oc (opOf s k).cases ∧ (0 < (opOf s k).cases.length → ∀ a, oc = some a → a.block < N) ∧ Below w.heap.size w w' := by
  obtain ⟨C, B, FB, hd, pa, pc, oa, oc, bs, Fs, cs, ta, tc, h⟩ := h
  obtain ⟨P, hP⟩ : ∃ P, s.ps[p]? = some P := ⟨_, List.getElem?_eq_getElem hpl⟩
  obtain ⟨w0, hN, b0, PA⟩ := h.ps
  obtain ⟨ma, mc, hM⟩ := h.cr
  have hkl := (List.getElem?_eq_some_iff.1 hx).1
  obtain ⟨mb, rfl, m0, m1, m2⟩ := hM.at.1 k _ hx
  simp only at m0 m1 m2
  have y2 := cell_of h.hp 2
  have y6 := cell_of h.hp 6
  have x0 := cell_of hM.hp 0
  simp [rcs] at y2 y6 x0
  have hL := h.lt
  have hk0 : (0 : Int) ≤ (k : Int) := by omega
  have hk1 : (k : Int) < (s.cr.length : Int) := by omega
  have e : opOf s k = (P[q]?).getD exitO := by
    unfold opOf
    rw [show Cr.gt s.cr (k : Int) = some ⟨p, q, xs⟩ by unfold Cr.gt; rw [if_neg (by omega), Int.toNat_natCast]; exact hx]
    simp [Cr.one0, hP]
  rw [e]
  obtain ⟨pb, po, qa, qc, hpa, hpc, hO, hPl⟩ := PA p P hP
  subst hpa
  have zp := Sh.cellB hpc b0
  have p0 : (0 : Int) ≤ (p : Int) := by omega
  have p1 : (p : Int) < (s.ps.length : Int) := by omega
  have hB := World.block_lt_of_cell? w _ x0
  have hmb := World.block_lt_of_cell? w _ m0
  have hpb := World.block_lt_of_cell? w _ zp
  simp only at hB hmb hpb
  clear h hM
  by_cases hlt : q < P.length
  · obtain ⟨o, hoq⟩ : ∃ o, P[q]? = some o := ⟨_, List.getElem?_eq_getElem hlt⟩
    rw [hoq]
    simp only [Option.getD_some]
    obtain ⟨ob, oo, ca, cc, hqa, ⟨k0, k1, k2, k3, k4⟩, hCA, -⟩ := hO q o hoq
    subst hqa
    have j0 := Sh.cellB k0 b0
    have j1 := Sh.cellB k1 b0
    have j2 := Sh.cellB k2 b0
    have j3 := Sh.cellB k3 b0
    have j4 := Sh.cellB k4 b0
    have hob := World.block_lt_of_cell? w _ j0
    simp only at hob
    have hq1 : ¬ ((P.length : Int) ≤ (q : Int)) := by omega
    have hq2 : (q : Int) < (P.length : Int) := by omega
    have hq0 : (0 : Int) ≤ (q : Int) := by omega
    have CA := hide hCA
    have B0 := hide b0
    clear hCA hO k0 k1 k2 k3 k4 hpc PA b0
    go_enter Tryz.func17, Tryz.ntmps17
    go_wp2_with fail
    have BB := hide (btr (below_alloc w (.cells #[.int .i64 0, .int .i64 0, .int .i64 0, .slice none 0 0, .bool false] 44)) (below_alloc _ (.cells #[.int .i64 (p : Int), .int .i64 (q : Int), .int .i64 xs] 63)))
    have Z3 := hide (heap_below (heap_new w (.cells #[.int .i64 0, .int .i64 0, .int .i64 0, .slice none 0 0, .bool false] 44)) (below_alloc _ (.cells #[.int .i64 (p : Int), .int .i64 (q : Int), .int .i64 xs] 63)))
    have V3 := hide (En.heap_new2 w (.cells #[.int .i64 0, .int .i64 0, .int .i64 0, .slice none 0 0, .bool false] 44) (.cells #[.int .i64 (p : Int), .int .i64 (q : Int), .int .i64 xs] 63))
    generalize (w.alloc (.cells #[.int .i64 0, .int .i64 0, .int .i64 0, .slice none 0 0, .bool false] 44)).alloc (.cells #[.int .i64 (p : Int), .int .i64 (q : Int), .int .i64 xs] 63) = W at *
    have v0 := cell_of V3.out 0
    have v1 := cell_of V3.out 1
    have c2 := Sh.cellB y2 BB.out
    have cp := Sh.cellB zp BB.out
    have i0 := Sh.cellB j0 BB.out
    have i1 := Sh.cellB j1 BB.out
    have i2 := Sh.cellB j2 BB.out
    have i3 := Sh.cellB j3 BB.out
    have i4 := Sh.cellB j4 BB.out
    have r0 := cell_of Z3.out 0
    have r1 := cell_of Z3.out 1
    have r2 := cell_of Z3.out 2
    have r3 := cell_of Z3.out 3
    have r4 := cell_of Z3.out 4
    have f0 := frozen_of Z3.out 0
    have f1 := frozen_of Z3.out 1
    have f2 := frozen_of Z3.out 2
    have f3 := frozen_of Z3.out 3
    have f4 := frozen_of Z3.out 4
    simp at v0 v1 r0 r1 r2 r3 r4
    clear V3 x0 m0 m1 m2 y6 y2 zp hL hB hmb hpb
    clear j0 j1 j2 j3 j4 hob
    go_wp2_with fail
    go_quiet (fail)
    go_wp2_with fail
    have BE := below5 (btr BB.out (bdrew W nq)) (Nat.le_refl _) (.int .i64 o.kind) (.int .i64 o.a) (.int .i64 o.b) (.slice ca o.cases.length cc) (.bool o.def_)
    refine bodyPost_ret (En.results_row1 Tryz.results17 _ _ _ _ rfl (loadVar_op (set5 (heap_below Z3.out (bdrew W nq))) rfl)) rfl ⟨ca, cc, rfl, (CA.out.below B0.out).below BE, fun h0 a e => ?_, BE⟩
    obtain ⟨b, off, e2, c0, -⟩ := CA.out 0 _ (List.getElem?_eq_getElem h0)
    rw [e] at e2
    cases e2
    exact Nat.lt_of_lt_of_le (World.block_lt_of_cell? w0 _ c0) hN
  · rw [List.getElem?_eq_none (by omega)]
    simp only [Option.getD_none]
    have hq1 : (P.length : Int) ≤ (q : Int) := by omega
    clear hO hpc PA b0
    go_enter Tryz.func17, Tryz.ntmps17
    go_wp2_with fail
    have BB := hide (btr (below_alloc w (.cells #[.int .i64 0, .int .i64 0, .int .i64 0, .slice none 0 0, .bool false] 44)) (below_alloc _ (.cells #[.int .i64 (p : Int), .int .i64 (q : Int), .int .i64 xs] 63)))
    have Z3 := hide (heap_below (heap_new w (.cells #[.int .i64 0, .int .i64 0, .int .i64 0, .slice none 0 0, .bool false] 44)) (below_alloc _ (.cells #[.int .i64 (p : Int), .int .i64 (q : Int), .int .i64 xs] 63)))
    have V3 := hide (En.heap_new2 w (.cells #[.int .i64 0, .int .i64 0, .int .i64 0, .slice none 0 0, .bool false] 44) (.cells #[.int .i64 (p : Int), .int .i64 (q : Int), .int .i64 xs] 63))
    generalize (w.alloc (.cells #[.int .i64 0, .int .i64 0, .int .i64 0, .slice none 0 0, .bool false] 44)).alloc (.cells #[.int .i64 (p : Int), .int .i64 (q : Int), .int .i64 xs] 63) = W at *
    have v0 := cell_of V3.out 0
    have v1 := cell_of V3.out 1
    have c2 := Sh.cellB y2 BB.out
    have cp := Sh.cellB zp BB.out
    have r0 := cell_of Z3.out 0
    have r1 := cell_of Z3.out 1
    have r2 := cell_of Z3.out 2
    have r3 := cell_of Z3.out 3
    have r4 := cell_of Z3.out 4
    have f0 := frozen_of Z3.out 0
    have f1 := frozen_of Z3.out 1
    have f2 := frozen_of Z3.out 2
    have f3 := frozen_of Z3.out 3
    have f4 := frozen_of Z3.out 4
    simp at v0 v1 r0 r1 r2 r3 r4
    clear V3 x0 m0 m1 m2 y6 y2 zp hL hB hmb hpb
    go_wp2_with fail
    go_quiet (fail)
    go_wp2_with fail
    have BE := below5 (btr BB.out (bdrew W nq)) (Nat.le_refl _) (.int .i64 9) (.int .i64 0) (.int .i64 0) (.slice none 0 0) (.bool false)
    exact bodyPost_ret (En.results_row1 Tryz.results17 _ _ _ _ rfl (loadVar_op (set5 (heap_below Z3.out (bdrew W nq))) rfl)) rfl ⟨none, 0, rfl, (fun k x hk => by simp [exitO] at hk), (fun _ a e => by cases e), BE⟩
end Rlo
end Go.Proofs.YtddchcekljndmaaGreat
/- A loom's Step, over this seat's program. -/
namespace Go.Proofs.YtddchcekljndmaaGreat
open Go.ChangeShapes Go.WideShapes Go.ChangeAt Go.RowKit
namespace Lo
open Ba

theorem kn_le {n : Nat} (h : n ≤ 200) : 2 * n * n + 2 * n ≤ 80400 := by
  have : n * n ≤ 200 * 200 := Nat.mul_le_mul h h
  have e : 2 * n * n = 2 * (n * n) := Nat.mul_assoc 2 n n
  omega
theorem Inv.n200 {sc : Sh.Sc} {n : Nat} {s : Lm} (h : Sh.schk sc = 0) (i : Inv sc n s) : n ≤ 200 := by
  have := i.le
  have := (schk_ok h).2.2.1
  omega
theorem Inv.ok {sc : Sh.Sc} {n : Nat} {s : Lm} (h : Sh.schk sc = 0) (i : Inv sc n s) : Ok (2 * n * n + 2 * n) s := by
  have hn := i.n200 h
  refine ⟨i.b.bw.cb, i.b.bw.tn, fun k st e => ?_, fun k st e b => ?_, ?_, i.d⟩
  · have := i.b.sb k st e
    omega
  · have := i.b.sb k st e
    unfold _root_.Go.Proofs.YtddchcekljndmaaGreat.Pi.own
    split <;> omega
  · have := i.b.md
    omega
theorem cat_tr {col col' : Nat → Nat} {w w' : World} {oc : Option Addr} {cs : List De.Cs} (h : De.CAt w oc cs) (hc : 0 < cs.length → ∀ a, oc = some a → col a.block = 7) (t : Tr col col' w w') : De.CAt w' oc cs ∧ (0 < cs.length → ∀ a, oc = some a → col' a.block = 7) := by
  refine ⟨fun k x hx => ?_, fun h0 a e => ?_⟩
  · obtain ⟨b, off, e, h0, h1, h2⟩ := h k x hx
    have h7 := hc (Nat.lt_of_le_of_lt (Nat.zero_le k) (List.getElem?_eq_some_iff.1 hx).1) _ e
    exact ⟨b, off, e, t.cell h0 h7, t.cell h1 h7, t.cell h2 h7⟩
  · obtain ⟨b, off, e2, q, _⟩ := h 0 cs[0] (List.getElem?_eq_getElem h0)
    rw [e] at e2
    cases e2
    exact (t.old b (World.block_lt_of_cell? w _ q)).trans (hc h0 _ e)
theorem tail_es {w : World} {g cap : Nat} {l : List Ev} {n : Nat} (h : w.ownsRow 0 66 8 (.slice (some ⟨g, 0, none⟩) l.length cap) l.length (ec l)) : EsAt w (some ⟨g, n * 8, none⟩) (l.drop n) := by
  obtain ⟨ob, d, e, hE, _⟩ := own_es h
  cases e
  intro k e hk
  rw [List.getElem?_drop] at hk
  obtain ⟨b, off, e2, hc⟩ := hE (n + k) e hk
  cases e2
  refine ⟨g, n * 8, rfl, fun j hj => ?_⟩
  have := hc j hj
  rw [← this]
  congr 2
  rw [Nat.add_mul]
  omega
set_option maxRecDepth 100000 in
set_option maxHeartbeats 1600000 in
theorem step_over (L : Nat) (col : Nat → Nat) (s : Lm) (K : Nat) (w : World) (h : LW w col L s) (hb : Cr.Bn K s.cr) (hv : verd s ≠ 0) :
    Calls Tryz.prog 18 #[.pointer (some ⟨L, 0, none⟩)] w fun r w' => r = .returned (.slice none 0 0) ∧ Below w.heap.size w w' := by
  have NX := hide (next_over L col s K w h hb hv)
  clear h
  go_enter Tryz.func18, Tryz.ntmps18
  go_wp2_with fail
  refine NX.out.mono ?_
  rintro r w1 ⟨rfl, b1⟩
  have B1 := hide b1
  clear b1
  go_wp2_with fail
  go_ret
  exact ⟨rfl, btr B1.out (below_alloc _ _)⟩
theorem step_nil (w : World) : Calls Tryz.prog 18 #[.pointer none] w fun r w' => r = .returned (.slice none 0 0) ∧ Below w.heap.size w w' := by
  go_enter Tryz.func18, Tryz.ntmps18
  go_wp2_with fail
  refine (next_nil _).mono ?_
  rintro r w1 ⟨rfl, b1⟩
  have B1 := hide b1
  clear b1
  go_wp2_with fail
  go_ret
  exact ⟨rfl, btr B1.out (below_alloc _ _)⟩
set_option maxRecDepth 100000 in
set_option maxHeartbeats 3200000 in
theorem step_comp (L : Nat) (col : Nat → Nat) (s : Lm) (K : Nat) (w : World) (h : LW w col L s) (ok : Ok K s) (hK : K ≤ 90000) (hv : verd s = 0) (hl : s.p.length ≤ 1000 ∧ s.d.length ≤ 1000) (ht : nth s.p 0 = -1) (s' : Lm) (hs' : s' = tellS { s with p := s.p.tail } (bareE 13 (-1))) :
    Calls Tryz.prog 18 #[.pointer (some ⟨L, 0, none⟩)] w fun r w' => ∃ ob d, r = .returned (.slice ob (s'.tr.length - s.tr.length) d) ∧ EsAt w' ob (s'.tr.drop s.tr.length) ∧ ∃ col', LW w' col' L s' ∧ Tr col col' w w' := by
  have NX := hide (next_comp L col s K w h ok.cb hv hl ht)
  have H := hide h
  have OK := hide ok
  have HS := hide hs'
  clear h ok hs'
  go_enter Tryz.func18, Tryz.ntmps18
  go_wp2_with fail
  refine NX.out.mono ?_
  rintro r w1 ⟨rfl, b1⟩
  obtain ⟨col2, h2, t2, -⟩ := H.out.below (btr b1 (below_alloc w1 (.cells #[.int .i64 0, .int .i64 0, .int .i64 0, .slice none 0 0, .bool false] 44)))
  obtain ⟨N, C, B, X, FB, pa, pc, bs, Fs, ta, tc, h2⟩ := h2
  have T2 := hide t2
  have H2 := hide h2
  have y1 : (w1.alloc (.cells #[.int .i64 0, .int .i64 0, .int .i64 0, .slice none 0 0, .bool false] 44)).cell? ⟨L, 1, none⟩ = some (.pointer (some ⟨C, 0, none⟩)) := cell_of h2.hp 1
  have CN := hide (Lk.next_cu N C s.p s.d _ h2.cu)
  clear b1 h2 t2 NX
  go_wp2_with fail
  refine CN.out.mono ?_
  rintro r w3 ⟨rfl, cu3, kb3⟩
  obtain ⟨col3, h3, t3⟩ := H2.out.cursor cu3 kb3
  have T3 := hide (T2.out.trans t3)
  have y13 : w3.cell? ⟨L, 13, none⟩ = some (.slice ta s.tr.length tc) := cell_of h3.hp 13
  have H3 := hide h3
  clear cu3 kb3 h3 t3 H2 T2 y1 CN
  go_wp2_with fail
  refine (En.bare_any 13 (-1) _).mono ?_
  rintro r w4 ⟨rfl, b4⟩
  obtain ⟨col4, h4, t4, -⟩ := H3.out.lw.below b4
  have T4 := hide (T3.out.trans t4)
  have TE := hide (tell_any L col4 _ (bareE 13 (-1)) w4 h4 (by have := OK.out.tn; show s.tr.length ≤ _; omega))
  unfold En.evv En.evc bareE at TE
  clear b4 h4 t4 H3 T3
  go_wp2_with fail
  refine TE.out.mono ?_
  rintro r w5 ⟨rfl, col5, h5, t5⟩
  have T5 := hide (T4.out.trans t5)
  have h5' : LW w5 col5 L s' := by rw [HS.out]; exact h5
  obtain ⟨j, hj1, hj2, hlen⟩ : ∃ j, 0 < j ∧ j ≤ 1000000 ∧ s'.tr.length = s.tr.length + j := ⟨1, by omega, by omega, by rw [HS.out]; simp [tellS]⟩
  clear h5 t5 TE T4
  obtain ⟨N5, C5, B5, X5, FB5, pa5, pc5, bs5, Fs5, ta5, tc5, h5⟩ := h5'
  rcases h5.tr.2 with ⟨e1, e2⟩ | ⟨g5, cap5, cur5, e1, -, -, hcap, -⟩
  · omega
  · cases e1
    have ES := hide (tail_es (n := s.tr.length) h5.tr)
    have y5 : w5.cell? ⟨L, 13, none⟩ = some (.slice (some ⟨g5, 0, none⟩) s'.tr.length tc5) := cell_of h5.hp 13
    have H5 := hide h5
    have hlt := OK.out.tn
    have CE := hide (fun (l : List Ev) (oa : Option Addr) (c : Nat) (q : EsAt w5 oa l) (z : l.length ≤ 1000000) => clone_es oa l c w5 q z)
    have hdl : (s'.tr.drop s.tr.length).length = j := by rw [List.length_drop, hlen]; omega
    have CEs := hide (CE.out (s'.tr.drop s.tr.length) _ (tc5 - s.tr.length) ES.out (by omega))
    rw [hdl] at CEs
    have T5s := T5.out.size
    rw [hlen] at y5 hcap
    have hsub : s'.tr.length - s.tr.length = j := by omega
    clear h5 y13 ES CE
    generalize hk : s.tr.length = k at y5 hcap CEs hlt
    go_wp2_with fail
    refine CEs.out.mono ?_
    rintro r w6 ⟨ob, d, rfl, es6, -, b6⟩
    obtain ⟨col6, h6, t6, -⟩ := H5.out.lw.below b6
    have H6 := hide h6
    have T6 := hide (T5.out.trans t6)
    have E6 := hide es6
    clear h6 t6 es6 b6 CEs
    go_wp2_with fail
    go_ret
    exact ⟨ob, d, by (rw [hsub]) <;> rfl, by rw [hk]; exact E6.out, col6, H6.out, T6.out⟩
set_option maxRecDepth 100000 in
set_option maxHeartbeats 3200000 in
theorem step_op (L : Nat) (col : Nat → Nat) (s : Lm) (K p q : Nat) (n : Int) (w : World) (h : LW w col L s) (ok : Ok K s) (hK : K ≤ 90000) (hv : verd s = 0) (hl : s.p.length ≤ 1000 ∧ s.d.length ≤ 1000) (ht : nth s.p 0 ≠ -1)
    (hp : (Cr.one0 (Cr.gt s.cr (whoN s))).p = (p : Int)) (hq : (Cr.one0 (Cr.gt s.cr (whoN s))).q = (q : Int)) (hpl : p < s.ps.length) (hs4 : ∀ x ∈ s.ps, ∀ o ∈ x, o.cases.length ≤ 4) (ho : De.chk (opOf s (whoN s)) n = 0) (hw : whoN s ≠ -1)
    (s' : Lm) (hs' : s' = doF { s with p := s.p.tail } (whoN s) (opOf s (whoN s))) (hb' : s'.tr.length ≤ 1000000) :
    Calls Tryz.prog 18 #[.pointer (some ⟨L, 0, none⟩)] w fun r w' => ∃ ob d, r = .returned (.slice ob (s'.tr.length - s.tr.length) d) ∧ EsAt w' ob (s'.tr.drop s.tr.length) ∧ ∃ col', LW w' col' L s' ∧ Tr col col' w w' := by
  have NX := hide (next_op L col s K p q w h ok.cb hv hl ht hp hq hpl hs4)
  have SPD := hide (sp_do (s := { s with p := s.p.tail }) (g := whoN s) ho ok.dd hw)
  have DO := hide (fun u c oc cc (x : LW u c L { s with p := s.p.tail }) (y : De.CAt u oc (opOf s (whoN s)).cases) z => do_any L c { s with p := s.p.tail } K (whoN s) (opOf s (whoN s)) oc cc u n x ⟨ok.cb, ok.tn, ok.sm, ok.wl, ok.md, ok.dd⟩ hK ho y z)
  have H := hide h
  have OK := hide ok
  rw [← hs'] at DO SPD
  have hw' : (whoN s == -1) = false := by simp [hw]
  clear h ok hs' ho hp hq
  generalize opOf s (whoN s) = o at NX DO
  generalize whoN s = g at *
  unfold opV at NX DO
  go_enter Tryz.func18, Tryz.ntmps18
  go_wp2_with fail
  refine NX.out.mono ?_
  rintro r w1 ⟨oc, cc, rfl, hc1, hn1, b1⟩
  obtain ⟨col2, h2, t2, n2⟩ := H.out.below (btr b1 (below_alloc w1 (.cells #[.int .i64 o.kind, .int .i64 o.a, .int .i64 o.b, .slice oc o.cases.length cc, .bool o.def_] 44)))
  obtain ⟨N, C, B, X, FB, pa, pc, bs, Fs, ta, tc, h2⟩ := h2
  have T2 := hide t2
  have H2 := hide h2
  have y1 : (w1.alloc (.cells #[.int .i64 o.kind, .int .i64 o.a, .int .i64 o.b, .slice oc o.cases.length cc, .bool o.def_] 44)).cell? ⟨L, 1, none⟩ = some (.pointer (some ⟨C, 0, none⟩)) := cell_of h2.hp 1
  have CN := hide (Lk.next_cu N C s.p s.d _ h2.cu)
  have C2 := hide (hc1.below (below_alloc w1 (.cells #[.int .i64 o.kind, .int .i64 o.a, .int .i64 o.b, .slice oc o.cases.length cc, .bool o.def_] 44)))
  have D2 : Hid (0 < o.cases.length → ∀ a, oc = some a → col2 a.block = 7) := fun _ a e => n2 _ (hn1 a e)
  have V2 := hide (heap_new w1 (.cells #[.int .i64 o.kind, .int .i64 o.a, .int .i64 o.b, .slice oc o.cases.length cc, .bool o.def_] 44))
  have E2 := hide (n2 w1.heap.size b1.size)
  clear b1 h2 t2 NX n2 hc1 hn1
  go_wp2_with fail
  refine CN.out.mono ?_
  rintro r w3 ⟨rfl, cu3, kb3⟩
  obtain ⟨col3, h3, t3⟩ := H2.out.cursor cu3 kb3
  have T3 := hide (T2.out.trans t3)
  have y13 : w3.cell? ⟨L, 13, none⟩ = some (.slice ta s.tr.length tc) := cell_of h3.hp 13
  obtain ⟨c3, d3⟩ := cat_tr C2.out D2.out t3
  have V3 := hide (t3.heap V2.out E2.out)
  have DO3 := hide (DO.out w3 col3 oc cc h3.lw c3 d3)
  have v0 := cell_of V3.out 0
  have v1 := cell_of V3.out 1
  have v2 := cell_of V3.out 2
  have v3 := cell_of V3.out 3
  have v4 := cell_of V3.out 4
  simp at v0 v1 v2 v3 v4
  clear cu3 kb3 h3 t3 H2 T2 y1 CN c3 d3 V2 C2 D2 DO
  go_wp2_with fail
  refine DO3.out.mono ?_
  rintro r w5 ⟨rfl, col5, h5', t5⟩
  have T5 := hide (T3.out.trans t5)
  obtain ⟨j, hj1, hj2, hlen⟩ : ∃ j, 0 < j ∧ j ≤ 1000000 ∧ s'.tr.length = s.tr.length + j := by
    obtain ⟨e, l, hel⟩ := SPD.out
    have : s'.tr.length = s.tr.length + (l.length + 1) := by rw [hel]; simp
    exact ⟨l.length + 1, by omega, by omega, this⟩
  clear t5 DO3 T3 SPD v0 v1 v2 v3 v4 V3
  obtain ⟨N5, C5, B5, X5, FB5, pa5, pc5, bs5, Fs5, ta5, tc5, h5⟩ := h5'
  rcases h5.tr.2 with ⟨e1, e2⟩ | ⟨g5, cap5, cur5, e1, -, -, hcap, -⟩
  · omega
  · cases e1
    have ES := hide (tail_es (n := s.tr.length) h5.tr)
    have y5 : w5.cell? ⟨L, 13, none⟩ = some (.slice (some ⟨g5, 0, none⟩) s'.tr.length tc5) := cell_of h5.hp 13
    have H5 := hide h5
    have hlt := OK.out.tn
    have CE := hide (fun (l : List Ev) (oa : Option Addr) (c : Nat) (q : EsAt w5 oa l) (z : l.length ≤ 1000000) => clone_es oa l c w5 q z)
    have hdl : (s'.tr.drop s.tr.length).length = j := by rw [List.length_drop, hlen]; omega
    have CEs := hide (CE.out (s'.tr.drop s.tr.length) _ (tc5 - s.tr.length) ES.out (by omega))
    rw [hdl] at CEs
    have T5s := T5.out.size
    rw [hlen] at y5 hcap
    have hsub : s'.tr.length - s.tr.length = j := by omega
    clear h5 y13 ES CE
    generalize hk : s.tr.length = k at y5 hcap CEs hlt
    go_wp2_with fail
    refine CEs.out.mono ?_
    rintro r w6 ⟨ob, d, rfl, es6, -, b6⟩
    obtain ⟨col6, h6, t6, -⟩ := H5.out.lw.below b6
    have H6 := hide h6
    have T6 := hide (T5.out.trans t6)
    have E6 := hide es6
    clear h6 t6 es6 b6 CEs
    go_wp2_with fail
    go_ret
    exact ⟨ob, d, by (rw [hsub]) <;> rfl, by rw [hk]; exact E6.out, col6, H6.out, T6.out⟩
theorem step_any (L : Nat) (col : Nat → Nat) (sc : Sh.Sc) (n : Nat) (s : Lm) (w : World) (h : LW w col L s) (hs : Sh.schk sc = 0) (i : Inv sc n s) (hv : verd s = 0) :
    Calls Tryz.prog 18 #[.pointer (some ⟨L, 0, none⟩)] w fun r w' => ∃ ob d, r = .returned (.slice ob ((stepF s).tr.length - s.tr.length) d) ∧ EsAt w' ob ((stepF s).tr.drop s.tr.length) ∧ ∃ col', LW w' col' L (stepF s) ∧ Tr col col' w w' := by
  have hn := i.n200 hs
  have hk := kn_le hn
  have ok := i.ok hs
  obtain ⟨h1, h2, h3, h4, h5, h6, h7⟩ := schk_ok hs
  have hl : s.p.length ≤ 1000 ∧ s.d.length ≤ 1000 := by
    have := i.dl
    rw [i.p, List.length_drop]
    omega
  have i2 := i.step hs hv
  have hn2 := i2.n200 hs
  have hk2 := kn_le hn2
  have hb := i2.b.bw.tn
  by_cases ht : nth s.p 0 = -1
  · have e : stepF s = tellS { s with p := s.p.tail } (bareE 13 (-1)) := by
      unfold stepF
      rw [if_neg (by omega), if_pos ht]
    exact step_comp L col s _ w h ok (by omega) hv hl ht _ e
  · have e : stepF s = doF { s with p := s.p.tail } (whoN s) (opOf s (whoN s)) := by
      unfold stepF
      rw [if_neg (by omega), if_neg ht]
    have ht0 : 0 ≤ nth s.p 0 := by
      have hpl : 0 < s.p.length := by
        rcases Nat.eq_zero_or_pos s.p.length with z | z
        · exfalso
          unfold verd at hv
          rw [if_pos z] at hv
          split at hv
          · omega
          · split at hv <;> omega
        · exact z
      have hm : nth s.p 0 ∈ sc.pl := by
        rw [nth_lt _ _ hpl]
        have hsub : ∀ x ∈ s.p, x ∈ sc.pl := fun x hx => by
          rw [i.p] at hx
          exact List.mem_of_mem_drop hx
        exact hsub _ (List.getElem_mem hpl)
      have := h6 _ hm
      omega
    obtain ⟨k, y, hwk, hky, hy0⟩ := who_ok hv ht0
    have hg : Cr.one0 (Cr.gt s.cr (whoN s)) = y := by
      rw [hwk, Cr.gt_nat, hky]
      rfl
    have hym := List.mem_of_getElem? hky
    have hyp := i.b.cp y hym
    have hyq := i.b.bw.cb y hym
    refine step_op L col s _ y.p.toNat y.q.toNat sc.ps.length w h ok (by omega) hv hl ht (by rw [hg]; omega) (by rw [hg]; omega) (by rw [i.ps]; omega) (fun x hx o ho => ?_) (op_chk hs i _) (by rw [hwk]; omega) _ e (by omega)
    rw [i.ps] at hx
    obtain ⟨a, ha⟩ := List.getElem?_of_mem hx
    obtain ⟨b, hb⟩ := List.getElem?_of_mem ho
    exact (op_ok (Sh.ari_of h5 ha hb)).2.2.1
end Lo
end Go.Proofs.YtddchcekljndmaaGreat
/- The reference's loom: Step, over this seat's program. -/
namespace Go.Proofs.YtddchcekljndmaaGreat
open Go.ChangeShapes Go.WideShapes Go.ChangeAt Go.RowKit
namespace Rlo
open Ba Lo

set_option maxRecDepth 100000 in
set_option maxHeartbeats 1600000 in
theorem rstep_over (L N : Nat) (col : Nat → Nat) (s : Lm) (w : World) (h : RW w col L N s) (hv : verd s ≠ 0) :
    Calls Tryz.prog 19 #[.pointer (some ⟨L, 0, none⟩)] w fun r w' => r = .returned (.bool false) ∧ Below w.heap.size w w' := by
  have VD := hide (rverdict_any L N col s w h)
  have hv' : (verd s != 0) = true := by simp [hv]
  generalize verd s = v at VD hv'
  clear h
  go_enter Tryz.func19, Tryz.ntmps19
  go_wp2_with fail
  refine VD.out.mono ?_
  rintro r w1 ⟨rfl, b1⟩
  have B1 := hide b1
  clear b1
  go_wp2_with fail
  go_ret
  exact ⟨rfl, B1.out⟩
set_option maxRecDepth 100000 in
set_option maxHeartbeats 1600000 in
theorem rstep_comp (L N : Nat) (col : Nat → Nat) (s : Lm) (w : World) (h : RW w col L N s) (hv : verd s = 0) (hl : 0 < s.p.length) (ht : nth s.p 0 = -1) (htr : s.tr.length ≤ 1000000) :
    Calls Tryz.prog 19 #[.pointer (some ⟨L, 0, none⟩)] w fun r w' => r = .returned (.bool true) ∧ ∃ col', RW w' col' L N (tellS { s with p := s.p.tail } (bareE 13 (-1))) ∧ Tq col col' w w' := by
  have VD := hide (rverdict_any L N col s w h)
  rw [hv] at VD
  have H := hide h
  clear h
  go_enter Tryz.func19, Tryz.ntmps19
  go_wp2_with fail
  refine VD.out.mono ?_
  rintro r w1 ⟨rfl, b1⟩
  obtain ⟨col1, h1, t1, -⟩ := H.out.below b1
  have T1 := hide t1
  have WH := hide (rwho_comp L N col1 s w1 h1 hl ht)
  have H1 := hide h1
  clear b1 h1 t1 VD
  go_wp2_with fail
  refine WH.out.mono ?_
  rintro r w2 ⟨rfl, b2⟩
  obtain ⟨col2, h2, t2, -⟩ := H1.out.below b2
  obtain ⟨C, B, FB, hd, pa, pc, oa, oc, bs, Fs, cs, ta, tc, h2⟩ := h2
  have T2 := hide (T1.out.trans t2)
  have y5 := cell_of h2.hp 5
  simp [rcs] at y5
  have NX := hide (Pk.rnext_any C N s.p s.d w2 h2.cu h2.nc)
  have H2 := hide h2
  clear b2 h2 t2 WH
  go_wp2_with fail
  refine NX.out.mono ?_
  rintro r w3 ⟨rfl, cu3, kb3⟩
  obtain ⟨col3, h3, t3⟩ := H2.out.cursor cu3 kb3
  have T3 := hide (T2.out.trans t3)
  have H3 := hide h3
  clear cu3 kb3 h3 t3 NX y5
  go_wp2_with fail
  refine (bare_r 13 (-1) _).mono ?_
  rintro r w4 ⟨rfl, b4⟩
  unfold En.evv En.evc bareE
  obtain ⟨col4, h4, t4, -⟩ := H3.out.below b4
  have T4 := hide (T3.out.trans t4)
  have NO := hide (note_any L N col4 _ (bareE 13 (-1)) w4 h4.lw htr)
  unfold En.evv En.evc at NO
  simp only [bareE] at NO
  clear b4 h4 t4
  go_wp2_with fail
  refine NO.out.mono ?_
  rintro r w5 ⟨rfl, col5, h5, t5⟩
  have H5 := hide h5
  have T5 := hide (T4.out.trans t5)
  clear h5 t5 NO
  go_wp2_with fail
  go_ret
  exact ⟨rfl, col5, H5.out, T5.out⟩
set_option maxRecDepth 100000 in
set_option maxHeartbeats 6400000 in
theorem rstep_op (L N : Nat) (col : Nat → Nat) (s : Lm) (K k p q : Nat) (xs n : Int) (w : World) (h : RW w col L N s) (ok : Ok K s) (hK : K ≤ 90000) (hv : verd s = 0) (hl : 0 < s.p.length) (ht : 0 ≤ nth s.p 0) (hA : 0 < (Cr.abl s.cr).length) (hm : (Cr.abl s.cr).length ≤ 1000)
    (hw : whoN s = (k : Int)) (hx : s.cr[k]? = some ⟨p, q, xs⟩) (hpl : p < s.ps.length) (ho : De.chk (opOf s (k : Int)) n = 0) (wb : WB s) (R : Lm) (hR : R = doF { s with p := s.p.tail } (k : Int) (opOf s (k : Int))) :
    Calls Tryz.prog 19 #[.pointer (some ⟨L, 0, none⟩)] w fun r w' => r = .returned (.bool true) ∧ ∃ col', RW w' col' L N R ∧ Tq col col' w w' := by
  have VD := hide (rverdict_any L N col s w h)
  rw [hv] at VD
  have H := hide h
  have OK : Hid (Ok K { s with p := s.p.tail }) := ⟨ok.cb, ok.tn, ok.sm, ok.wl, ok.md, ok.dd⟩
  have WBH : Hid (WB { s with p := s.p.tail }) := wb
  have HR := hide hR
  have HO := hide ho
  have HL := hide (And.intro hl (And.intro ht (And.intro hA hm)))
  have HW := hide hw
  have HX := hide hx
  have k0 : ¬ ((k : Int) < 0) := by omega
  have hoe : opOf { s with p := s.p.tail } (k : Int) = opOf s (k : Int) := rfl
  have RO := hide (fun (c : Nat → Nat) (u : World) (z : RW u c L N { s with p := s.p.tail }) => rop_any L N c { s with p := s.p.tail } k p q xs u z hx hpl)
  rw [hoe] at RO
  generalize opOf s (k : Int) = o at *
  clear h ok hR ho hl ht hA hm hw hx wb hoe
  unfold opV at RO
  go_enter Tryz.func19, Tryz.ntmps19
  go_wp2_with fail
  refine VD.out.mono ?_
  rintro r w1 ⟨rfl, b1⟩
  obtain ⟨col1, h1, t1, -⟩ := H.out.below b1
  have T1 := hide t1
  have WH := hide (rwho_go L N col1 s w1 h1 HL.out.1 HL.out.2.1 HL.out.2.2.1 HL.out.2.2.2)
  rw [HW.out] at WH
  have H1 := hide h1
  clear b1 h1 t1 VD
  go_wp2_with fail
  refine WH.out.mono ?_
  rintro r w2 ⟨rfl, b2⟩
  obtain ⟨col2, h2, t2, -⟩ := H1.out.below b2
  obtain ⟨C, B, FB, hd, pa, pc, oa, oc0, bs, Fs, cs0, ta, tc, h2⟩ := h2
  have T2 := hide (T1.out.trans t2)
  have y5 := cell_of h2.hp 5
  simp [rcs] at y5
  have NX := hide (Pk.rnext_any C N s.p s.d w2 h2.cu h2.nc)
  have H2 := hide h2
  clear b2 h2 t2 WH
  go_wp2_with fail
  refine NX.out.mono ?_
  rintro r w3 ⟨rfl, cu3, kb3⟩
  obtain ⟨col3, h3, t3⟩ := H2.out.cursor cu3 kb3
  have T3 := hide (T2.out.trans t3)
  have RO3 := hide (RO.out col3 w3 h3.lw)
  have H3 := hide h3
  clear cu3 kb3 h3 t3 NX y5 RO H1 H2 T1 T2
  go_wp2_with fail
  refine RO3.out.mono ?_
  rintro r w4 ⟨oc, cc, rfl, ca4, nb4, b4⟩
  obtain ⟨kind, a, b, cs, df⟩ := o
  simp only at ca4 nb4 ⊢
  obtain ⟨col5, h5, t5, -⟩ := H3.out.below (btr b4 (below_alloc w4 (.cells #[.int .i64 kind, .int .i64 a, .int .i64 b, .slice oc cs.length cc, .bool df] 44)))
  have T5 := hide (T3.out.trans t5)
  have CA := hide (ca4.below (below_alloc w4 (.cells #[.int .i64 kind, .int .i64 a, .int .i64 b, .slice oc cs.length cc, .bool df] 44)))
  have NB := hide nb4
  obtain ⟨-, hk, h4, ha, hb, -, hcs⟩ := op_ok HO.out
  simp only at hk h4 ha hb hcs
  have HCS := hide hcs
  have H5 := hide h5.lw
  clear ca4 nb4 b4 h5 t5 RO3 H3 T3 HL HW HX HO hcs
  rcases (show kind = 1 ∨ kind = 2 ∨ kind = 3 ∨ kind = 4 ∨ kind = 5 ∨ kind = 6 ∨ kind = 7 ∨ kind = 8 ∨ kind = 9 by omega) with rfl | rfl | rfl | rfl | rfl | rfl | rfl | rfl | rfl
  · have CL := hide (other_spawn L N col5 { s with p := s.p.tail } K (k : Int) a b oc cs.length cc df _ H5.out OK.out (by omega))
    have RE : Hid (R = goS { s with p := s.p.tail, cr := Cr.spL s.cr a } ⟨1, (k : Int), -1, -1, a, Cr.spV s.cr a, false, false⟩) := by
      show _ = _
      rw [HR.out]
      rfl
    rw [← RE.out] at CL
    clear hk ha hb HR RE
    go_wp2_with fail
    refine CL.out.mono ?_
    rintro r w6 ⟨rfl, col6, h6, t6⟩
    have H6 := hide h6
    have T6 := hide (T5.out.trans t6)
    clear h6 t6 CL
    go_wp2_with fail
    go_ret
    exact ⟨rfl, col6, H6.out, T6.out⟩
  · simp [De.mA, De.mB] at ha hb
    obtain ⟨ka, rfl⟩ : ∃ ka : Nat, a = (ka : Int) := ⟨a.toNat, by omega⟩
    obtain ⟨kb, rfl⟩ : ∃ kb : Nat, b = (kb : Int) := ⟨b.toNat, by omega⟩
    have CL := hide (other_make L N col5 { s with p := s.p.tail } K (k : Int) ka kb (by omega) (by omega) oc cs.length cc df _ H5.out OK.out (by omega))
    have RE : Hid (R = goS (opensS { s with p := s.p.tail } ka kb) ⟨2, (k : Int), s.md, -1, kb, -1, false, false⟩) := by
      show _ = _
      rw [HR.out]
      rfl
    rw [← RE.out] at CL
    clear hk ha hb HR RE
    go_wp2_with fail
    refine CL.out.mono ?_
    rintro r w6 ⟨rfl, col6, h6, t6⟩
    have H6 := hide h6
    have T6 := hide (T5.out.trans t6)
    clear h6 t6 CL
    go_wp2_with fail
    go_ret
    exact ⟨rfl, col6, H6.out, T6.out⟩
  · simp [De.mA] at ha
    obtain ⟨ka, rfl⟩ : ∃ ka : Nat, a = (ka : Int) := ⟨a.toNat, by omega⟩
    have CL := hide (alone_r L N col5 { s with p := s.p.tail } K (k : Int) true ka b _ H5.out OK.out (by omega) (by omega))
    have RE : Hid (R = aloneR { s with p := s.p.tail } (k : Int) ⟨true, ka, b⟩) := by
      show _ = _
      rw [HR.out]
      rw [alone_is]
      rfl
    rw [← RE.out] at CL
    clear hk ha hb HR RE
    go_wp2_with fail
    refine CL.out.mono ?_
    rintro r w6 ⟨rfl, col6, h6, t6⟩
    have H6 := hide h6
    have T6 := hide (T5.out.trans t6)
    clear h6 t6 CL
    go_wp2_with fail
    go_ret
    exact ⟨rfl, col6, H6.out, T6.out⟩
  · simp [De.mA] at ha
    obtain ⟨ka, rfl⟩ : ∃ ka : Nat, a = (ka : Int) := ⟨a.toNat, by omega⟩
    have CL := hide (alone_r L N col5 { s with p := s.p.tail } K (k : Int) false ka 0 _ H5.out OK.out (by omega) (by omega))
    have RE : Hid (R = aloneR { s with p := s.p.tail } (k : Int) ⟨false, ka, 0⟩) := by
      show _ = _
      rw [HR.out]
      rw [alone_is, alone_fine _ _ _ rfl]
      rfl
    rw [← RE.out] at CL
    clear hk ha hb HR RE
    go_wp2_with fail
    refine CL.out.mono ?_
    rintro r w6 ⟨rfl, col6, h6, t6⟩
    have H6 := hide h6
    have T6 := hide (T5.out.trans t6)
    clear h6 t6 CL
    go_wp2_with fail
    go_ret
    exact ⟨rfl, col6, H6.out, T6.out⟩
  · simp [De.mA] at ha
    obtain ⟨ka, rfl⟩ : ∃ ka : Nat, a = (ka : Int) := ⟨a.toNat, by omega⟩
    have CL := hide (shut_any L N col5 { s with p := s.p.tail } K (k : Int) ka _ H5.out OK.out hK (by omega) (by omega) WBH.out)
    have RE : Hid (R = shutR { s with p := s.p.tail } (k : Int) ka) := by
      show _ = _
      rw [HR.out]
      rfl
    rw [← RE.out] at CL
    clear hk ha hb HR RE
    go_wp2_with fail
    refine CL.out.mono ?_
    rintro r w6 ⟨rfl, col6, h6, t6⟩
    have H6 := hide h6
    have T6 := hide (T5.out.trans t6)
    clear h6 t6 CL
    go_wp2_with fail
    go_ret
    exact ⟨rfl, col6, H6.out, T6.out⟩
  · have CL := hide (choose_r L N col5 { s with p := s.p.tail } K (k : Int) 6 a b cs df oc cc _ H5.out OK.out (by omega) CA.out NB.out h4 (fun c hc => (HCS.out c hc).1))
    have RE : Hid (R = chooseR { s with p := s.p.tail } (k : Int) ⟨6, a, b, cs, df⟩) := by
      show _ = _
      rw [HR.out]
      rw [choose_is _ _ _ h4 OK.out.dd]
      rfl
    rw [← RE.out] at CL
    clear hk ha hb HR RE
    go_wp2_with fail
    refine CL.out.mono ?_
    rintro r w6 ⟨rfl, col6, h6, t6⟩
    have H6 := hide h6
    have T6 := hide (T5.out.trans t6)
    clear h6 t6 CL
    go_wp2_with fail
    go_ret
    exact ⟨rfl, col6, H6.out, T6.out⟩
  · have CL := hide (other_read L N col5 { s with p := s.p.tail } K (k : Int) a b oc cs.length cc df _ H5.out OK.out (by omega))
    have RE : Hid (R = goS { s with p := s.p.tail } ⟨9, (k : Int), -1, -1, a, -1, false, false⟩) := by
      show _ = _
      rw [HR.out]
      rfl
    rw [← RE.out] at CL
    clear hk ha hb HR RE
    go_wp2_with fail
    refine CL.out.mono ?_
    rintro r w6 ⟨rfl, col6, h6, t6⟩
    have H6 := hide h6
    have T6 := hide (T5.out.trans t6)
    clear h6 t6 CL
    go_wp2_with fail
    go_ret
    exact ⟨rfl, col6, H6.out, T6.out⟩
  · have CL := hide (other_write L N col5 { s with p := s.p.tail } K (k : Int) a b oc cs.length cc df _ H5.out OK.out (by omega))
    have RE : Hid (R = goS { s with p := s.p.tail } ⟨10, (k : Int), -1, -1, a, -1, false, false⟩) := by
      show _ = _
      rw [HR.out]
      rfl
    rw [← RE.out] at CL
    clear hk ha hb HR RE
    go_wp2_with fail
    refine CL.out.mono ?_
    rintro r w6 ⟨rfl, col6, h6, t6⟩
    have H6 := hide h6
    have T6 := hide (T5.out.trans t6)
    clear h6 t6 CL
    go_wp2_with fail
    go_ret
    exact ⟨rfl, col6, H6.out, T6.out⟩
  · have CL := hide (other_exit L N col5 { s with p := s.p.tail } K (k : Int) a b oc cs.length cc df _ H5.out OK.out (by omega))
    have RE : Hid (R = tellS { s with p := s.p.tail, cr := Cr.chL s.cr (k : Int) 0 2 0 } (bareE 11 (k : Int))) := by
      show _ = _
      rw [HR.out]
      rfl
    rw [← RE.out] at CL
    clear hk ha hb HR RE
    go_wp2_with fail
    refine CL.out.mono ?_
    rintro r w6 ⟨rfl, col6, h6, t6⟩
    have H6 := hide h6
    have T6 := hide (T5.out.trans t6)
    clear h6 t6 CL
    go_wp2_with fail
    go_ret
    exact ⟨rfl, col6, H6.out, T6.out⟩
theorem abl_len (l : List Mb) : ∀ j, (Cr.ablF j l).length ≤ l.length := by
  induction l with
  | nil => intro j; simp [Cr.ablF]
  | cons y l ih =>
    intro j
    unfold Cr.ablF
    have := ih (j + 1)
    split <;> simp <;> omega
theorem rstep_any (L N : Nat) (col : Nat → Nat) (sc : Sh.Sc) (n : Nat) (s : Lm) (w : World) (h : RW w col L N s) (hs : Sh.schk sc = 0) (i : Inv sc n s) (wb : WB s) (hv : verd s = 0) :
    Calls Tryz.prog 19 #[.pointer (some ⟨L, 0, none⟩)] w fun r w' => r = .returned (.bool true) ∧ ∃ col', RW w' col' L N (stepF s) ∧ Tq col col' w w' := by
  have hn := i.n200 hs
  have hk := kn_le hn
  have ok := i.ok hs
  obtain ⟨h1, h2, h3, h4, h5, h6, h7⟩ := schk_ok hs
  have hpl : 0 < s.p.length := by
    rcases Nat.eq_zero_or_pos s.p.length with z | z
    · exfalso
      unfold verd at hv
      rw [if_pos z] at hv
      split at hv
      · omega
      · split at hv <;> omega
    · exact z
  by_cases ht : nth s.p 0 = -1
  · have e : stepF s = tellS { s with p := s.p.tail } (bareE 13 (-1)) := by
      unfold stepF
      rw [if_neg (by omega), if_pos ht]
    rw [e]
    exact rstep_comp L N col s w h hv hpl ht (by have := ok.tn; omega)
  · have e : stepF s = doF { s with p := s.p.tail } (whoN s) (opOf s (whoN s)) := by
      unfold stepF
      rw [if_neg (by omega), if_neg ht]
    have ht0 : 0 ≤ nth s.p 0 := by
      have hm : nth s.p 0 ∈ sc.pl := by
        rw [nth_lt _ _ hpl]
        have hsub : ∀ x ∈ s.p, x ∈ sc.pl := fun x hx => by
          rw [i.p] at hx
          exact List.mem_of_mem_drop hx
        exact hsub _ (List.getElem_mem hpl)
      have := h6 _ hm
      omega
    obtain ⟨k, y, hwk, hky, hy0⟩ := who_ok hv ht0
    have hym := List.mem_of_getElem? hky
    have hyp := i.b.cp y hym
    have hyq := i.b.bw.cb y hym
    have hA : 0 < (Cr.abl s.cr).length := by
      apply abl_pos
      unfold Cr.hasS
      rw [List.any_eq_true]
      exact ⟨y, hym, by simp [hy0]⟩
    have hm : (Cr.abl s.cr).length ≤ 1000 := by
      have e1 : (Cr.abl s.cr).length ≤ s.cr.length := abl_len s.cr 0
      have e2 := i.b.cl
      omega
    rw [hwk] at e
    obtain ⟨yp, yq, ys⟩ := y
    simp only at hyp hyq
    obtain ⟨p, rfl⟩ : ∃ p : Nat, yp = (p : Int) := ⟨yp.toNat, by omega⟩
    obtain ⟨q, rfl⟩ : ∃ q : Nat, yq = (q : Int) := ⟨yq.toNat, by omega⟩
    exact rstep_op L N col s _ k p q ys sc.ps.length w h ok (by omega) hv hpl ht0 hA hm hwk hky (by rw [i.ps]; omega) (op_chk hs i _) wb _ e
end Rlo
end Go.Proofs.YtddchcekljndmaaGreat
/- A strings.Builder of the call's own; package sheet: putNumbers, putList, over this seat's program. -/
namespace Go.Proofs.YtddchcekljndmaaGreat
open Go.ChangeShapes Go.WideShapes Go.ChangeAt Go.RowKit
open Go.Shelf
namespace Sh
open De Ba Re

/-- what a builder's call leaves: below it all, above it all but bytes -/
structure BK (b : Nat) (w w' : World) : Prop where
  bel : Below b w w'
  oth : Lib.OthersKept 5 (some b) w w'
theorem BK.refl (b : Nat) (w : World) : BK b w w := ⟨Below.refl _ _, Lib.OthersKept.refl _ _ _⟩
theorem BK.trans {b : Nat} {a c d : World} (h : BK b a c) (k : BK b c d) : BK b a d := ⟨h.bel.trans k.bel, h.oth.trans k.oth⟩
theorem BK.of {b : Nat} {a c : World} (h : Below a.heap.size a c) (hb : b ≤ a.heap.size) : BK b a c := ⟨h.mono hb, fun _ _ hk _ _ => heap_below hk h⟩

end Sh
end Go.Proofs.YtddchcekljndmaaGreat
/- Package sheet: copied, moved, putNumbers, putList, over this seat's program. -/
namespace Go.Proofs.YtddchcekljndmaaGreat
open Go.ChangeShapes Go.WideShapes Go.ChangeAt Go.RowKit
namespace Sh
open De Ba Re

set_option maxRecDepth 100000 in
set_option maxHeartbeats 800000 in
theorem copied_int (oa : Option Addr) (l : List Int) (c : Nat) (w : World) (hA : At w oa l) (hl : l.length ≤ 1000000) :
    Calls Tryz.prog 60 #[.slice oa l.length c] w fun r w' => r = .returned (.slice (some ⟨w.heap.size, 0, none⟩) l.length l.length) ∧ w' = w.alloc (.cells (row l) 3) := by
  obtain ⟨i0, hi, hz0, hz1, hz2⟩ := info_parts Ba.info_int
  have hm := run_mkG Tryz.underlying23 hi hz0 w l.length (by rw [hz2]; omega) (by omega)
  have hcp := run_cpG (z := .int .i64 0) Tryz.underlying23 hi 3 w oa l.length c (l.map (Value.int .i64)) (by rw [hz1]; simp) (at_cs hA) (fun v hv => by
    obtain ⟨x, _, rfl⟩ := List.mem_map.1 hv
    rfl) (by rw [hz1]; decide)
  generalize madeCells (Value.cells (.int .i64 0)) (l.length * i0.size) = MC at hm hcp
  have hrow : (l.map (Value.int .i64)).toArray = row l := rfl
  rw [hrow] at hcp
  clear hA hrow
  go_enter Tryz.func60, Tryz.ntmps60
  go_wp2_with fail
  go_ret
  exact ⟨rfl, rfl⟩

/-- a list, moved by d -/
def mv (d : Int) (l : List Int) : List Int := l.map (· + d)
end Sh
end Go.Proofs.YtddchcekljndmaaGreat
/- Package sheet: Encode, over this seat's program. -/
namespace Go.Proofs.YtddchcekljndmaaGreat
open Go.ChangeShapes Go.WideShapes Go.ChangeAt Go.RowKit
namespace Sh
open De Ba Re

/-- an operation's, a program's, all programs' bytes -/
def eop (o : OpD) : List Nat := De.pls (nums o)
def epr (p : List OpD) : List Nat := spl p.length ++ p.flatMap eop
def eps (ps : List (List OpD)) : List Nat := ps.flatMap epr
/-- a script's bytes -/
def sen (s : Sc) : List Nat := De.pls [s.T, s.M, (s.ps.length : Int)] ++ eps s.ps ++ plist (mv 1 s.pl) ++ plist s.dr
end Sh
end Go.Proofs.YtddchcekljndmaaGreat
/- Package sheet: the reader, over this seat's program. -/
namespace Go.Proofs.YtddchcekljndmaaGreat
open Go.ChangeShapes Go.WideShapes Go.ChangeAt Go.RowKit
namespace Sh
open De Ba Re

/-- a number that is not above m, and how many bytes it has -/
def up1 (m : Int) (L : List Nat) : Option (Nat × Nat) := match tk L with
  | none => none
  | some (n, k) => if (n : Int) ≤ m then some (n, k) else none
/-- numbers up to limits: what they are, where one stands behind them, has it failed? -/
def ul (s : ByteArray) : List Int → Nat → Bool → List Int × Nat × Bool
  | [], z, f => ([], z, f)
  | m :: t, z, f => match f, up1 m ((nbs s).drop z) with
    | false, some (n, k) => ((n : Int) :: (ul s t (z + k) false).1, (ul s t (z + k) false).2)
    | _, _ => (List.replicate (t.length + 1) 0, z, true)
end Sh
end Go.Proofs.YtddchcekljndmaaGreat
/- Package sheet: the reader's list and program, over this seat's program. -/
namespace Go.Proofs.YtddchcekljndmaaGreat
open Go.ChangeShapes Go.WideShapes Go.ChangeAt Go.RowKit
namespace Sh
open De Ba Re

/-- the operation with which bytes begin, of p programs, and how many bytes it has -/
def dop (p : Int) (S : ByteArray) : Option (OpD × Nat) := if (rop S false).2.2 = false ∧ chk (rop S false).1 p = 0 then some ((rop S false).1, (eop (rop S false).1).length) else none
/-- so many operations from z on, and where one stands behind them -/
def rops (p : Int) (s : ByteArray) (z : Nat) : Nat → Option (List OpD × Nat)
  | 0 => some ([], z)
  | n + 1 => match rops p s z n with
    | none => none
    | some (l, y) => match dop p (s.extract y s.size) with
      | none => none
      | some (o, k) => some (l ++ [o], y + k)
theorem cat_kb {R : Nat} {w w' : World} {oa : Option Addr} {l : List Cs} (k : De.KB R w w') (h : CAt w oa l) (hb : ∀ a, oa = some a → a.block ≠ R) : CAt w' oa l := by
  intro j x hj
  obtain ⟨b, off, rfl, h1, h2, h3⟩ := h j x hj
  exact ⟨b, off, rfl, kb_cell k h1 (hb _ rfl), kb_cell k h2 (hb _ rfl), kb_cell k h3 (hb _ rfl)⟩
/-- a row of operations in block g, the cases of each in blocks from N on -/
def OF (w : World) (N g : Nat) (l : List OpD) : Prop :=
  ∀ t o, l[t]? = some o → ∃ ca cc, (w.cell? ⟨g, t * 5, none⟩ = some (.int .i64 o.kind) ∧ w.cell? ⟨g, t * 5 + 1, none⟩ = some (.int .i64 o.a) ∧ w.cell? ⟨g, t * 5 + 2, none⟩ = some (.int .i64 o.b) ∧ w.cell? ⟨g, t * 5 + 3, none⟩ = some (.slice ca o.cases.length cc) ∧ w.cell? ⟨g, t * 5 + 4, none⟩ = some (.bool o.def_)) ∧ CAt w ca o.cases ∧ (∀ a, ca = some a → N ≤ a.block) ∧ o.cases.length ≤ 3000
/-- there is room for n operations in block g -/
def OR (w : World) (g n : Nat) : Prop := (∀ c, c < n * 5 → (w.cell? ⟨g, c, none⟩).isSome = true) ∧ ∀ c, w.frozen? ⟨g, c, none⟩ = false
theorem OF.kb {w w' : World} {N g R : Nat} {l : List OpD} (h : OF w N g l) (k : De.KB R w w') (h1 : R < N) (h2 : g ≠ R) : OF w' N g l := by
  intro t o ht
  obtain ⟨ca, cc, ⟨q0, q1, q2, q3, q4⟩, hC, hN, hl⟩ := h t o ht
  exact ⟨ca, cc, ⟨kb_cell k q0 h2, kb_cell k q1 h2, kb_cell k q2 h2, kb_cell k q3 h2, kb_cell k q4 h2⟩, cat_kb k hC (fun a e => by have := hN a e; omega), hN, hl⟩
theorem OR.kb {w w' : World} {g n R : Nat} (h : OR w g n) (k : De.KB R w w') (hg : g < w.heap.size) (h2 : g ≠ R) : OR w' g n := by
  have hb := k.block g hg h2
  refine ⟨fun c hc => ?_, fun c => ?_⟩
  · have := h.1 c hc
    rw [World.cell?] at this ⊢
    rw [hb]
    exact this
  · have := h.2 c
    rw [World.frozen?] at this ⊢
    rw [hb]
    exact this
theorem OF.at {w : World} {N g : Nat} {l : List OpD} (h : OF w N g l) : OAt w (some ⟨g, 0, none⟩) l := by
  intro k o hk
  obtain ⟨ca, cc, ⟨q0, q1, q2, q3, q4⟩, hC, _, hl⟩ := h k o hk
  refine ⟨g, 0, ca, cc, rfl, ⟨?_, ?_, ?_, ?_, ?_⟩, hC, by unfold maxLen; omega⟩ <;> rw [Nat.zero_add] <;> assumption
theorem OF.store {w : World} {N g n j : Nat} {l : List OpD} (h : OF w N g l) (hr : OR w g n) (hg : g < N) (hl : l.length = j) (hj : j < n) (o : OpD) (ca : Option Addr) (cc : Nat) (hC : CAt w ca o.cases) (hN : ∀ a, ca = some a → N ≤ a.block) (h4 : o.cases.length ≤ 3000) (w' : World) (hw : w' = w.setCells g (j * 5) [.int .i64 o.kind, .int .i64 o.a, .int .i64 o.b, .slice ca o.cases.length cc, .bool o.def_]) : OF w' N g (l ++ [o]) ∧ OR w' g n := by
  subst hw
  have cin := World.cell?_setCells_in g [.int .i64 o.kind, .int .i64 o.a, .int .i64 o.b, .slice ca o.cases.length cc, .bool o.def_] (j * 5) w (fun i hi => hr.1 _ (by simp at hi; omega))
  have cout : ∀ x : Addr, (x.block = g → x.spot = none → x.off < j * 5 ∨ j * 5 + 5 ≤ x.off) → (w.setCells g (j * 5) [.int .i64 o.kind, .int .i64 o.a, .int .i64 o.b, .slice ca o.cases.length cc, .bool o.def_]).cell? x = w.cell? x := World.cell?_setCells_out g [.int .i64 o.kind, .int .i64 o.a, .int .i64 o.b, .slice ca o.cases.length cc, .bool o.def_] (j * 5) w
  have cat : ∀ (ca' : Option Addr) (cs : List Cs), CAt w ca' cs → (∀ a, ca' = some a → N ≤ a.block) → CAt (w.setCells g (j * 5) [.int .i64 o.kind, .int .i64 o.a, .int .i64 o.b, .slice ca o.cases.length cc, .bool o.def_]) ca' cs := by
    intro ca' cs hc hn i x hi
    obtain ⟨b, off, rfl, h1, h2, h3⟩ := hc i x hi
    have hb := hn _ rfl
    simp only at hb
    refine ⟨b, off, rfl, ?_, ?_, ?_⟩ <;> (rw [cout]; assumption; intro e; simp only at e; omega)
  refine ⟨?_, ?_, ?_⟩
  · intro t x ht
    by_cases e : t < l.length
    · rw [List.getElem?_append_left e] at ht
      obtain ⟨ca', cc', ⟨q0, q1, q2, q3, q4⟩, hC', hN', hl'⟩ := h t x ht
      refine ⟨ca', cc', ⟨?_, ?_, ?_, ?_, ?_⟩, cat _ _ hC' hN', hN', hl'⟩ <;> (rw [cout]; assumption; intro _ _; simp only; omega)
    · have ht2 : t = j := by
        have := (List.getElem?_eq_some_iff.1 ht).1
        rw [List.length_append, List.length_cons, List.length_nil] at this
        omega
      subst ht2
      rw [List.getElem?_append_right (by omega), hl, Nat.sub_self] at ht
      simp at ht
      subst ht
      refine ⟨ca, cc, ⟨?_, ?_, ?_, ?_, ?_⟩, cat _ _ hC hN, hN, h4⟩
      · exact cin 0 (by simp)
      · exact cin 1 (by simp)
      · exact cin 2 (by simp)
      · exact cin 3 (by simp)
      · exact cin 4 (by simp)
  · intro c hc
    by_cases e : c < j * 5 ∨ j * 5 + 5 ≤ c
    · rw [cout _ (fun _ _ => e)]
      exact hr.1 c hc
    · have := cin (c - j * 5) (by simp; omega)
      rw [show j * 5 + (c - j * 5) = c by omega] at this
      rw [this]
      rfl
  · intro c
    rw [World.frozen?_setCells]
    exact hr.2 c
end Sh
end Go.Proofs.YtddchcekljndmaaGreat
/- Package sheet: the reader's program, over this seat's program. -/
namespace Go.Proofs.YtddchcekljndmaaGreat
open Go.ChangeShapes Go.WideShapes Go.ChangeAt Go.RowKit
namespace Sh
open De Ba Re

theorem info_op : (Tryz.prog.info? 44).map (fun i => (i.zero, i.size, i.bytes)) = some (some (.agg #[.int .i64 0, .int .i64 0, .int .i64 0, .slice none 0 0, .bool false]), 5, 56) := by kernel_rfl
theorem OR.new (w : World) (n : Nat) (MC : Array Value) (t : TypeId) (h : MC.size = n * 5) : OR (w.alloc (.cells MC t)) w.heap.size n := by
  have hh := heap_new w (.cells MC t)
  refine ⟨fun c hc => ?_, fun c => frozen_of hh c⟩
  rw [cell_of hh, Array.getElem?_eq_getElem (by omega)]
  rfl
/-- a program from z on, and where one stands behind it -/
def rprog (p : Int) (s : ByteArray) (z : Nat) : Option (List OpD × Nat) := match up1 32 ((nbs s).drop z) with
  | none => none
  | some (n, k) => rops p s (z + k) n
end Sh
end Go.Proofs.YtddchcekljndmaaGreat
/- Package sheet: Decode, over this seat's program. -/
namespace Go.Proofs.YtddchcekljndmaaGreat
open Go.ChangeShapes Go.WideShapes Go.ChangeAt Go.RowKit
namespace Sh
open De Ba Re

/-- so many programs from z on, of p programs, and where one stands behind them -/
def rprogs (p : Int) (s : ByteArray) (z : Nat) : Nat → Option (List (List OpD) × Nat)
  | 0 => some ([], z)
  | n + 1 => match rprogs p s z n with
    | none => none
    | some (l, y) => match rprog p s y with
      | none => none
      | some (q, y') => some (l ++ [q], y')
/-- a script's head -/
def shead (s : ByteArray) : Option (Nat × Nat × Nat × Nat) := match up1 256 (nbs s) with
  | none => none
  | some (t, k1) => match up1 1048576 ((nbs s).drop k1) with
    | none => none
    | some (m, k2) => match up1 8 ((nbs s).drop (k1 + k2)) with
      | none => none
      | some (n, k3) => some (t, m, n, k1 + k2 + k3)
/-- the script that bytes are -/
def sdec (s : ByteArray) : Option Sc := match shead s with
  | none => none
  | some (t, m, n, z3) => match rprogs n s z3 n with
    | none => none
    | some (ps, z) => match tl ((nbs s).drop z) 200 with
      | .error _ => none
      | .ok (xs, k5) => match tl ((nbs s).drop (z + k5)) 64 with
        | .error _ => none
        | .ok (ys, k6) => if z + k5 + k6 = s.size ∧ schk ⟨t, m, ps, mv (-1) xs, ys⟩ = 0 then some ⟨t, m, ps, mv (-1) xs, ys⟩ else none
theorem info_pr : (Tryz.prog.info? 64).map (fun i => (i.zero, i.size, i.bytes)) = some (some (.slice none 0 0), 1, 24) := by kernel_rfl
/-- programs in a row of slices: each in a block of its own, from N on -/
def PF (w : World) (N : Nat) (arr : Array Value) (ps : List (List OpD)) : Prop :=
  ∀ (t : Nat) (q : List OpD), ps[t]? = some q → ∃ (g c : Nat), arr[t]? = some (.slice (some ⟨g, 0, none⟩) q.length c) ∧ OF w (g + 1) g q ∧ N ≤ g ∧ q.length ≤ 1000
theorem PF.kb {w w' : World} {N R : Nat} {arr : Array Value} {ps : List (List OpD)} (h : PF w N arr ps) (k : De.KB R w w') (hR : R < N) : PF w' N arr ps := by
  intro t q ht
  obtain ⟨g, c, h1, h2, h3, h4⟩ := h t q ht
  exact ⟨g, c, h1, h2.kb k (by omega) (by omega), h3, h4⟩
theorem PF.store {w : World} {N : Nat} {arr : Array Value} {ps : List (List OpD)} (h : PF w N arr ps) (k : Nat) (hk : ps.length = k) (hs : k < arr.size) (g c : Nat) (q : List OpD) (hq : OF w (g + 1) g q) (hN : N ≤ g) (h32 : q.length ≤ 1000) : PF w N (arr.setIfInBounds k (.slice (some ⟨g, 0, none⟩) q.length c)) (ps ++ [q]) := by
  intro t x ht
  by_cases e : t < ps.length
  · rw [List.getElem?_append_left e] at ht
    obtain ⟨g', c', h1, h2, h3, h4⟩ := h t x ht
    exact ⟨g', c', by rw [Array.getElem?_setIfInBounds_ne (by omega)]; exact h1, h2, h3, h4⟩
  · have hl := (List.getElem?_eq_some_iff.1 ht).1
    rw [List.length_append, List.length_cons, List.length_nil] at hl
    have : t = k := by omega
    subst this
    rw [List.getElem?_append_right (by omega), hk, Nat.sub_self] at ht
    simp at ht
    subst ht
    exact ⟨g, c, by rw [Array.getElem?_setIfInBounds_self_of_lt hs], hq, hN, h32⟩
theorem PF.at {w : World} {N G : Nat} {arr : Array Value} {ps : List (List OpD)} {t : TypeId} (h : PF w N arr ps) (hg : w.heap[G]? = some (.cells arr t (0, 0))) : PAt w (some ⟨G, 0, none⟩) ps := by
  intro k q hk
  obtain ⟨g, c, h1, h2, _, h4⟩ := h k q hk
  exact ⟨G, 0, _, _, rfl, by rw [Nat.zero_add, cell_of hg]; exact h1, h2.at, by unfold maxLen; omega⟩
/-- what the head has told -/
def HD (s : ByteArray) (T M : Int) (n z : Nat) (f : Bool) : Prop := (f = true ∧ sdec s = none) ∨ (f = false ∧ ∃ t m : Nat, T = t ∧ M = m ∧ shead s = some (t, m, n, z))
/-- how far programs are read -/
def LP (s : ByteArray) (T M : Int) (n z k y : Nat) (f : Bool) (w : World) (N : Nat) (arr : Array Value) (ps : List (List OpD)) : Prop := (f = true ∧ sdec s = none) ∨ (f = false ∧ (∃ t m : Nat, T = t ∧ M = m ∧ shead s = some (t, m, n, z)) ∧ rprogs n s z k = some (ps, y) ∧ PF w N arr ps)
/-- what Decode answers -/
def DRes (s : ByteArray) (r : Ending) (w' : World) : Prop :=
  (sdec s = none ∧ r = .returned (.tuple #[.agg #[.int .i64 0, .int .i64 0, .slice none 0 0, .slice none 0 0, .slice none 0 0], .int .i64 4])) ∨
  ∃ T M ps pl dr pa la da pc lc dc, sdec s = some ⟨T, M, ps, pl, dr⟩ ∧ r = .returned (.tuple #[.agg #[.int .i64 T, .int .i64 M, .slice pa ps.length pc, .slice la pl.length lc, .slice da dr.length dc], .int .i64 0]) ∧ SAt w' ⟨T, M, ps, pl, dr⟩ pa la da
theorem size_sc : (Tryz.prog.info? 25).map (·.size) = some 5 := by kernel_rfl
theorem loadVar_sc {w : World} {b : Nat} {c : Array Value} {t : TypeId} (h : w.heap[b]? = some (.cells c t (0, 0))) (hc : c.size = 5) : (loadVar 25 ⟨b, 0, none⟩).run Tryz.prog w = .ok (.agg c) w :=
  run_loadVar_row w b t _ _ _ _ h Tryz.underlying25 rfl (by rw [size_sc, hc])
end Sh
end Go.Proofs.YtddchcekljndmaaGreat
/- Package sheet: copies of rows of programs, operations, cases, over this seat's program. -/
namespace Go.Proofs.YtddchcekljndmaaGreat
open Go.ChangeShapes Go.WideShapes Go.ChangeAt Go.RowKit
namespace Sh
open De Ba Re

theorem cps {w : World} {oa : Option Addr} {m : Nat} (h : ∀ j, j < m → ∃ b off v, oa = some ⟨b, off, none⟩ ∧ w.cell? ⟨b, off + j, none⟩ = some v ∧ v.oneCell' = true) : ∃ cs : List Value, cs.length = m ∧ CsAt w oa cs ∧ ∀ v ∈ cs, v.oneCell' = true := by
  have hv : ∀ j, j < m → ∃ v : Value, ∃ b off, oa = some ⟨b, off, none⟩ ∧ w.cell? ⟨b, off + j, none⟩ = some v ∧ v.oneCell' = true := fun j hj => by
    obtain ⟨b, off, v, h1, h2⟩ := h j hj
    exact ⟨v, b, off, h1, h2⟩
  have fam : ∃ f : Nat → Value, ∀ j, j < m → ∃ b off, oa = some ⟨b, off, none⟩ ∧ w.cell? ⟨b, off + j, none⟩ = some (f j) ∧ (f j).oneCell' = true := by
    refine ⟨fun j => if hj : j < m then Classical.choose (hv j hj) else .int .i64 0, fun j hj => ?_⟩
    simp only [dif_pos hj]
    exact Classical.choose_spec (hv j hj)
  obtain ⟨f, hf⟩ := fam
  refine ⟨(List.range m).map f, by simp, ?_, ?_⟩
  · intro j v hj
    have hjm : j < m := by
      have := (List.getElem?_eq_some_iff.1 hj).1
      simpa using this
    obtain ⟨b, off, h1, h2, _⟩ := hf j hjm
    simp [hjm] at hj
    subst hj
    exact ⟨b, off, h1, h2⟩
  · intro v hv
    rw [List.mem_map] at hv
    obtain ⟨j, hj, rfl⟩ := hv
    obtain ⟨_, _, _, _, h3⟩ := hf j (List.mem_range.1 hj)
    exact h3
theorem cs_get {w : World} {b off : Nat} {cs : List Value} (hA : CsAt w (some ⟨b, off, none⟩) cs) {j : Nat} (hj : j < cs.length) {v : Value} (hc : w.cell? ⟨b, off + j, none⟩ = some v) : cs[j]? = some v := by
  obtain ⟨b', off', he, h2⟩ := hA j cs[j] (List.getElem?_eq_getElem hj)
  cases he
  rw [hc] at h2
  rw [List.getElem?_eq_getElem hj, ← h2]
theorem row_cell (w : World) (cs : List Value) (t : TypeId) (j : Nat) : (w.alloc (.cells cs.toArray t)).cell? ⟨w.heap.size, j, none⟩ = cs[j]? := by
  rw [cell_of (heap_new _ _), List.getElem?_toArray]
theorem oat_cells {w : World} {oa : Option Addr} {q : List OpD} (h : OAt w oa q) : ∀ j, j < q.length * 5 → ∃ b off v, oa = some ⟨b, off, none⟩ ∧ w.cell? ⟨b, off + j, none⟩ = some v ∧ v.oneCell' = true := by
  intro j hj
  have ht : j / 5 < q.length := by omega
  obtain ⟨b, off, ca, cc, he, ⟨h0, h1, h2, h3, h4⟩, _⟩ := h (j / 5) q[j / 5] (List.getElem?_eq_getElem ht)
  have e : j % 5 = 0 ∨ j % 5 = 1 ∨ j % 5 = 2 ∨ j % 5 = 3 ∨ j % 5 = 4 := by omega
  rcases e with e | e | e | e | e
  · exact ⟨b, off, _, he, by rw [show off + j = off + j / 5 * 5 by omega]; exact h0, rfl⟩
  · exact ⟨b, off, _, he, by rw [show off + j = off + j / 5 * 5 + 1 by omega]; exact h1, rfl⟩
  · exact ⟨b, off, _, he, by rw [show off + j = off + j / 5 * 5 + 2 by omega]; exact h2, rfl⟩
  · exact ⟨b, off, _, he, by rw [show off + j = off + j / 5 * 5 + 3 by omega]; exact h3, rfl⟩
  · exact ⟨b, off, _, he, by rw [show off + j = off + j / 5 * 5 + 4 by omega]; exact h4, rfl⟩
theorem cat_cells {w : World} {oa : Option Addr} {l : List Cs} (h : CAt w oa l) : ∀ j, j < l.length * 3 → ∃ b off v, oa = some ⟨b, off, none⟩ ∧ w.cell? ⟨b, off + j, none⟩ = some v ∧ v.oneCell' = true := by
  intro j hj
  have ht : j / 3 < l.length := by omega
  obtain ⟨b, off, he, h0, h1, h2⟩ := h (j / 3) l[j / 3] (List.getElem?_eq_getElem ht)
  have e : j % 3 = 0 ∨ j % 3 = 1 ∨ j % 3 = 2 := by omega
  rcases e with e | e | e
  · exact ⟨b, off, _, he, by rw [show off + j = off + j / 3 * 3 by omega]; exact h0, rfl⟩
  · exact ⟨b, off, _, he, by rw [show off + j = off + j / 3 * 3 + 1 by omega]; exact h1, rfl⟩
  · exact ⟨b, off, _, he, by rw [show off + j = off + j / 3 * 3 + 2 by omega]; exact h2, rfl⟩
theorem pat_cells {w : World} {oa : Option Addr} {ps : List (List OpD)} (h : PAt w oa ps) : ∀ j, j < ps.length * 1 → ∃ b off v, oa = some ⟨b, off, none⟩ ∧ w.cell? ⟨b, off + j, none⟩ = some v ∧ v.oneCell' = true := by
  intro j hj
  rw [Nat.mul_one] at hj
  obtain ⟨b, off, pa, pc, he, h0, _⟩ := h j ps[j] (List.getElem?_eq_getElem hj)
  exact ⟨b, off, _, he, h0, rfl⟩

set_option maxRecDepth 100000 in
set_option maxHeartbeats 800000 in
theorem copied_op (oa : Option Addr) (q : List OpD) (c : Nat) (w : World) (hO : OAt w oa q) (hl : q.length ≤ 1000) :
    Calls Tryz.prog 58 #[.slice oa q.length c] w fun r w' => r = .returned (.slice (some ⟨w.heap.size, 0, none⟩) q.length q.length) ∧ ∃ cs, w' = w.alloc (.cells cs.toArray 44) ∧ cs.length = q.length * 5 ∧ CsAt w oa cs := by
  obtain ⟨i0, hi, hz0, hz1, hz2⟩ := info_parts info_op
  obtain ⟨cs, h1, h2, h3⟩ := cps (oat_cells hO)
  have hm := run_mkG Tryz.underlying64 hi hz0 w q.length (by rw [hz2]; omega) (by omega)
  have hcp := run_cpG (z := .agg #[.int .i64 0, .int .i64 0, .int .i64 0, .slice none 0 0, .bool false]) Tryz.underlying64 hi 3 w oa q.length c cs (by rw [hz1]; exact h1) h2 h3 (by rw [hz1]; decide)
  generalize madeCells (Value.cells (.agg #[.int .i64 0, .int .i64 0, .int .i64 0, .slice none 0 0, .bool false])) (q.length * i0.size) = MC at hm hcp
  have H2 := hide h2
  clear hO h2 hi hz0 hz1 hz2
  go_enter Tryz.func58, Tryz.ntmps58
  go_wp2_with fail
  go_ret
  exact ⟨rfl, cs, rfl, h1, H2.out⟩
set_option maxRecDepth 100000 in
set_option maxHeartbeats 800000 in
theorem copied_pr (oa : Option Addr) (ps : List (List OpD)) (c : Nat) (w : World) (hP : PAt w oa ps) (hl : ps.length ≤ 1000) :
    Calls Tryz.prog 57 #[.slice oa ps.length c] w fun r w' => r = .returned (.slice (some ⟨w.heap.size, 0, none⟩) ps.length ps.length) ∧ ∃ cs, w' = w.alloc (.cells cs.toArray 64) ∧ cs.length = ps.length ∧ CsAt w oa cs := by
  obtain ⟨i0, hi, hz0, hz1, hz2⟩ := info_parts info_pr
  obtain ⟨cs, h1, h2, h3⟩ := cps (pat_cells hP)
  have hm := run_mkG Tryz.underlying22 hi hz0 w ps.length (by rw [hz2]; omega) (by omega)
  have hcp := run_cpG (z := .slice none 0 0) Tryz.underlying22 hi 3 w oa ps.length c cs (by rw [hz1]; exact h1) h2 h3 (by rw [hz1]; decide)
  generalize madeCells (Value.cells (.slice none 0 0)) (ps.length * i0.size) = MC at hm hcp
  have H2 := hide h2
  rw [Nat.mul_one] at h1
  clear hP h2 hi hz0 hz1 hz2
  go_enter Tryz.func57, Tryz.ntmps57
  go_wp2_with fail
  go_ret
  exact ⟨rfl, cs, rfl, h1, H2.out⟩
set_option maxRecDepth 100000 in
set_option maxHeartbeats 800000 in
theorem copied_case (oa : Option Addr) (l : List Cs) (c : Nat) (w : World) (hC : CAt w oa l) (hl : l.length ≤ 100000) :
    Calls Tryz.prog 59 #[.slice oa l.length c] w fun r w' => r = .returned (.slice (some ⟨w.heap.size, 0, none⟩) l.length l.length) ∧ CAt w' (some ⟨w.heap.size, 0, none⟩) l ∧ Below w.heap.size w w' := by
  obtain ⟨i0, hi, hz0, hz1, hz2⟩ := info_parts info_case
  obtain ⟨cs, h1, h2, h3⟩ := cps (cat_cells hC)
  have hm := run_mkG Tryz.underlying42 hi hz0 w l.length (by rw [hz2]; omega) (by omega)
  have hcp := run_cpG (z := .agg #[.bool false, .int .i64 0, .int .i64 0]) Tryz.underlying42 hi 3 w oa l.length c cs (by rw [hz1]; exact h1) h2 h3 (by rw [hz1]; decide)
  generalize madeCells (Value.cells (.agg #[.bool false, .int .i64 0, .int .i64 0])) (l.length * i0.size) = MC at hm hcp
  have HN : Hid (CAt (w.alloc (.cells cs.toArray 92)) (some ⟨w.heap.size, 0, none⟩) l) := by
    intro k x hk
    obtain ⟨b, off, rfl, q0, q1, q2⟩ := hC k x hk
    have hkl := (List.getElem?_eq_some_iff.1 hk).1
    refine ⟨w.heap.size, 0, rfl, ?_, ?_, ?_⟩
    · rw [Nat.zero_add, row_cell]; exact cs_get h2 (by omega) q0
    · rw [Nat.zero_add, row_cell]; exact cs_get h2 (by omega) (by rw [← Nat.add_assoc]; exact q1)
    · rw [Nat.zero_add, row_cell]; exact cs_get h2 (by omega) (by rw [← Nat.add_assoc]; exact q2)
  clear hC h2 hi hz0 hz1 hz2
  go_enter Tryz.func59, Tryz.ntmps59
  go_wp2_with fail
  go_ret
  exact ⟨rfl, HN.out, below_alloc _ _⟩
end Sh
end Go.Proofs.YtddchcekljndmaaGreat
