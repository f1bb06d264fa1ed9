import Derived.Test.YtekdcfdjohlfcaaAk
import Derived.Test.YtekdcfdjohlfcaaAj
import Derived.Maps.RangeWalk
import Derived.Maps.Views
import Derived.Deep.WholeRow
import Derived.Deep.RegionHeld3
import Derived.Deep.Cut
import Derived.Maps.AppendAt
/- Package report, over this seat's program: what lies in memory. -/
namespace Go.Proofs.Ytekdcfdjohlfcaa
open Go.ChangeShapes Go.WideShapes Go.ChangeAt Go.RowKit
namespace Rep
open Ck Ce
open Ba (hide)
open Go.Maps (Keyed int_keyed keyOf_int_mk)

/-- a race -/
structure Rc where
  c : Int
  p : Int
  g : Int
  wi : Int
  wr : Bool
def r0 : Rc := ⟨0, 0, 0, 0, false⟩
def ra5 (r : Rc) : Array Value := #[.int .i64 r.c, .int .i64 r.p, .int .i64 r.g, .int .i64 r.wi, .bool r.wr]
def rv (r : Rc) : Value := .agg (ra5 r)
def rD (r : Rc) : DataW Unit := .agg [.lit (.int .i64 r.c), .lit (.int .i64 r.p), .lit (.int .i64 r.g), .lit (.int .i64 r.wi), .lit (.bool r.wr)]
def mE : Value → Option (DataW Unit × List MemPlace)
  | .agg a => match a.toList with
    | [.int .i64 c, .int .i64 p, .int .i64 g, .int .i64 x, .bool b] => some (rD ⟨c, p, g, x, b⟩, [])
    | _ => none
  | _ => none
theorem mE_v (r : Rc) : mE (rv r) = some (rD r, []) := rfl
theorem mE_inv {v : Value} {y : DataW Unit × List MemPlace} (h : mE v = some y) : ∃ r, v = rv r ∧ y = (rD r, []) := by
  unfold mE at h
  split at h
  · rename_i a
    split at h
    · rename_i c p g x b he
      cases h
      refine ⟨⟨c, p, g, x, b⟩, ?_, rfl⟩
      unfold rv ra5
      congr 1
      exact Array.ext' (by rw [he])
    · cases h
  · cases h
theorem rD_inj {r s : Rc} (h : rD r = rD s) : r = s := by
  obtain ⟨a, b, c, d, e⟩ := r
  obtain ⟨a', b', c', d', e'⟩ := s
  unfold rD at h
  simp at h
  obtain ⟨rfl, rfl, rfl, rfl, rfl⟩ := h
  rfl
theorem law : Keyed Try.prog 3 := int_keyed Try.underlying3
theorem info_rc : (Try.prog.info? 73).map (fun i => (i.zero, i.size)) = some (some (rv r0), 5) := by kernel_rfl
theorem zero_rc (w : World) : (zeroValue 73).run Try.prog w = .ok (rv r0) w := (zero_of_info info_rc).1 w
def kl (g : Int) : Lit := .int .i64 g
theorem kl_inj {a b : Int} (h : kl a = kl b) : a = b := by cases h; rfl
def wfk (g : Int) : Prop := (Lit.int .i64 g).wf = true
theorem key_kl (g : Int) (h : wfk g) : keyOf Try.prog 3 (.int .i64 g) = some (kl g) := keyOf_int_mk Try.underlying3 h
theorem lit_key (g : Int) (h : wfk g) : WideAt.IsKeyLit (kl g) := law.key (key_kl g h)
/-- a map reads as which cell has which race -/
structure MI (D : DataW Unit) (f : Int → Option Rc) : Prop where
  tidy : Maps.Tidy D
  has : ∀ g, Maps.has D (kl g) = (f g).isSome
  at_ : ∀ g r z, f g = some r → D.atKey (kl g) z = rD r
theorem MI.no {D : DataW Unit} {f : Int → Option Rc} (h : MI D f) {g : Int} (e : f g = none) (z : DataW Unit) : D.atKey (kl g) z = z := Maps.atKey_of_not_has (by rw [h.has, e]; rfl) z
def upf (f : Int → Option Rc) (g : Int) (v : Option Rc) : Int → Option Rc := fun x => if x = g then v else f x
theorem upf_same (f : Int → Option Rc) (g : Int) (v : Option Rc) : upf f g v g = v := if_pos rfl
theorem upf_other (f : Int → Option Rc) (g x : Int) (v : Option Rc) (h : x ≠ g) : upf f g v x = f x := if_neg h
theorem MI.put {D : DataW Unit} {f : Int → Option Rc} (h : MI D f) {g : Int} (hg : wfk g) (r : Rc) : MI (D.put (kl g) (rD r)) (upf f g (some r)) := by
  refine ⟨h.tidy.put (lit_key g hg) _, fun x => ?_, fun x r' z e => ?_⟩
  · by_cases q : x = g
    · subst q
      rw [Maps.has_put_same h.tidy.isMap (lit_key x hg), upf_same]; rfl
    · rw [Maps.has_put_other (fun e => q (kl_inj e)), h.has, upf_other _ _ _ _ q]
  · by_cases q : x = g
    · subst q
      rw [upf_same] at e
      cases e
      exact Maps.atKey_put_same h.tidy.isMap (lit_key x hg) _ _
    · rw [upf_other _ _ _ _ q] at e
      rw [Maps.atKey_put_other (fun e => q (kl_inj e))]
      exact h.at_ x r' z e
theorem look_shape {D : DataW Unit} {f : Int → Option Rc} (h : MI D f) {g : Int} {v : Value} {ps : List MemPlace} (e : mE v = some (D.atKey (kl g) (rD r0), ps)) : v = rv ((f g).getD r0) := by
  obtain ⟨r, rfl, q⟩ := mE_inv e
  cases hf : f g with
  | none =>
    rw [h.no hf] at q
    rw [← rD_inj (congrArg Prod.fst q)]
    rfl
  | some p =>
    rw [h.at_ g p _ hf] at q
    rw [← rD_inj (congrArg Prod.fst q)]
    rfl
/-- how many races there are -/
def o1 (o : Option Rc) : Nat := if o.isSome then 1 else 0
def cnt (f : Int → Option Rc) : Nat := o1 (f 0) + o1 (f 1) + o1 (f 2) + o1 (f 3) + o1 (f 4) + o1 (f 5) + o1 (f 6) + o1 (f 7)
theorem o1_le (o : Option Rc) : o1 o ≤ 1 := by unfold o1; split <;> omega
theorem cnt_le (f : Int → Option Rc) : cnt f ≤ 8 := by
  unfold cnt
  have h0 := o1_le (f 0); have h1 := o1_le (f 1); have h2 := o1_le (f 2); have h3 := o1_le (f 3); have h4 := o1_le (f 4); have h5 := o1_le (f 5); have h6 := o1_le (f 6); have h7 := o1_le (f 7)
  omega
theorem eight {g : Int} (h0 : 0 ≤ g) (h1 : g < 8) : g = 0 ∨ g = 1 ∨ g = 2 ∨ g = 3 ∨ g = 4 ∨ g = 5 ∨ g = 6 ∨ g = 7 := by omega
theorem cnt_put {f : Int → Option Rc} {g : Int} (h0 : 0 ≤ g) (h1 : g < 8) (hf : f g = none) (r : Rc) : cnt (upf f g (some r)) = cnt f + 1 := by
  rcases eight h0 h1 with rfl | rfl | rfl | rfl | rfl | rfl | rfl | rfl <;> simp [cnt, upf, o1, hf] <;> omega

theorem own_sm {w w' : World} {base : Nat} {e : TypeId} {sz : Nat} {v : Value} {n : Nat} {xs : List Value} (h : w.ownsRow base e sz v n xs) (hb : ∀ g, v.ownBlock = some g → w'.heap[g]? = w.heap[g]?) : w'.ownsRow base e sz v n xs := by
  refine ⟨h.1, ?_⟩
  rcases h.2 with q | ⟨g, cap, cr, rfl, h0, hg, q⟩
  · exact .inl q
  · exact .inr ⟨g, cap, cr, rfl, h0, (hb g rfl).trans hg, q⟩
theorem _root_.Go.Proofs.Ytekdcfdjohlfcaa.Ce.CX.mv {Y Z : Nat → Prop} {X : Nat} {w w' : World} {st : Cst} {v : Value} (h : CX Y X w st v) (hX : w'.heap[X]? = w.heap[X]?) (hg : ∀ g, v.ownBlock = some g → w'.heap[g]? = w.heap[g]?) (zx : ¬ Z X) (zg : ∀ g, v.ownBlock = some g → ¬ Z g) (zl : ∀ k, Z k → k < w'.heap.size) : CX Z X w' st v :=
  ⟨hX.trans h.head, own_sm h.own hg, h.ne, zx, zg, zl, h.gd⟩

/-- a report: its cells, its first races -/
structure Rst where
  c : Nat → Cst
  f : Int → Option Rc
def pt (b : Nat) : Value := .pointer (some ⟨b, 0, none⟩)
def hd9 (p : Nat → Value) (mb : Nat) : Array Value := #[p 0, p 1, p 2, p 3, p 4, p 5, p 6, p 7, .map (some mb)]
theorem hd9_at (p : Nat → Value) (mb i : Nat) (h : i < 8) : (hd9 p mb)[i]? = some (p i) := by
  match i, h with
  | 0, _ | 1, _ | 2, _ | 3, _ | 4, _ | 5, _ | 6, _ | 7, _ => rfl
def upn {α : Type} (p : Nat → α) (k : Nat) (v : α) : Nat → α := fun i => if i = k then v else p i
theorem upn_same {α : Type} (p : Nat → α) (k : Nat) (v : α) : upn p k v k = v := if_pos rfl
theorem upn_other {α : Type} (p : Nat → α) (k i : Nat) (v : α) (h : i ≠ k) : upn p k v i = p i := if_neg h
theorem hd9_set (p : Nat → Value) (mb k : Nat) (h : k < 8) (v : Value) : (hd9 p mb).setIfInBounds k v = hd9 (upn p k v) mb := by
  match k, h with
  | 0, _ | 1, _ | 2, _ | 3, _ | 4, _ | 5, _ | 6, _ | 7, _ => rfl
/-- the report's own blocks, and what is foreign to its cell i -/
def Rb (X mb : Nat) (xs : Nat → Nat) (vs : Nat → Value) : Nat → Prop := fun k => k = X ∨ k = mb ∨ ∃ j, j < 8 ∧ (k = xs j ∨ (vs j).ownBlock = some k)
def Ot (Y : Nat → Prop) (X mb : Nat) (xs : Nat → Nat) (vs : Nat → Value) (i : Nat) : Nat → Prop := fun k => Y k ∨ k = X ∨ k = mb ∨ ∃ j, j < 8 ∧ j ≠ i ∧ (k = xs j ∨ (vs j).ownBlock = some k)
structure RX (Y : Nat → Prop) (X : Nat) (w : World) (S : Rst) (mb : Nat) (D : DataW Unit) (xs : Nat → Nat) (vs : Nat → Value) : Prop where
  hd : w.heap[X]? = some (.cells (hd9 (fun i => pt (xs i)) mb) 120 (0, 0))
  ow : w.ownsMap Try.prog 3 mE mb (cnt S.f) D
  mi : MI D S.f
  ne : X ≠ mb
  yx : ¬ Y X
  ym : ¬ Y mb
  lm : mb < w.heap.size
  cx : ∀ i, i < 8 → CX (Ot Y X mb xs vs i) (xs i) w (S.c i) (vs i)
  fk : ∀ g, (S.f g).isSome = true → 0 ≤ g ∧ g < 8
def RW (Y B : Nat → Prop) (X : Nat) (w : World) (S : Rst) : Prop := ∃ mb D xs vs, RX Y X w S mb D xs vs ∧ B = Rb X mb xs vs
end Rep
end Go.Proofs.Ytekdcfdjohlfcaa
/- Package report, over this seat's program: how a report is kept; isCell, Cell, First, tell. -/
namespace Go.Proofs.Ytekdcfdjohlfcaa
open Go.ChangeShapes Go.WideShapes Go.ChangeAt Go.RowKit
namespace Rep
open Ck Ce
open Ba (hide)

theorem map_same {w w' : World} {mb n : Nat} {D : DataW Unit} (h : w.ownsMap Try.prog 3 mE mb n D) (e : w'.heap[mb]? = w.heap[mb]?) : w'.ownsMap Try.prog 3 mE mb n D := by
  obtain ⟨es, clock, hb, r⟩ := h
  exact ⟨es, clock, e.trans hb, r⟩
section
variable {Y Z : Nat → Prop} {X : Nat} {w w' : World} {S : Rst} {mb : Nat} {D : DataW Unit} {xs : Nat → Nat} {vs : Nat → Value}
theorem RX.lt (s : RX Y X w S mb D xs vs) : X < w.heap.size := (Array.getElem?_eq_some_iff.1 s.hd).1
theorem RX.bl (s : RX Y X w S mb D xs vs) : ∀ k, Rb X mb xs vs k → k < w.heap.size := by
  rintro k (rfl | rfl | ⟨j, hj, rfl | q⟩)
  · exact s.lt
  · exact s.lm
  · exact (s.cx j hj).lt
  · exact ((s.cx j hj).own.lt k q).2
theorem RX.bd (s : RX Y X w S mb D xs vs) : ∀ k, Rb X mb xs vs k → ¬ Y k := by
  rintro k (rfl | rfl | ⟨j, hj, rfl | q⟩) h
  · exact s.yx h
  · exact s.ym h
  · exact (s.cx j hj).yx (.inl h)
  · exact (s.cx j hj).yg k q (.inl h)
theorem RX.yl (s : RX Y X w S mb D xs vs) : ∀ k, Y k → k < w.heap.size := fun k q => (s.cx 0 (by decide)).yl k (.inl q)
/-- nothing of its own has changed -/
theorem RX.mv (s : RX Y X w S mb D xs vs) (hb : ∀ k, Rb X mb xs vs k → w'.heap[k]? = w.heap[k]?) (hz : ∀ k, Z k → ¬ Rb X mb xs vs k) (zl : ∀ k, Z k → k < w'.heap.size) (hs : w.heap.size ≤ w'.heap.size) : RX Z X w' S mb D xs vs := by
  refine ⟨(hb X (.inl rfl)).trans s.hd, map_same s.ow (hb mb (.inr (.inl rfl))), s.mi, s.ne, fun q => hz X q (.inl rfl), fun q => hz mb q (.inr (.inl rfl)), Nat.lt_of_lt_of_le s.lm hs, fun i hi => ?_, s.fk⟩
  refine (s.cx i hi).mv (hb _ (.inr (.inr ⟨i, hi, .inl rfl⟩))) (fun g q => hb _ (.inr (.inr ⟨i, hi, .inr q⟩))) ?_ ?_ ?_
  · rintro (q | q)
    · exact hz _ q (.inr (.inr ⟨i, hi, .inl rfl⟩))
    · exact (s.cx i hi).yx (.inr q)
  · rintro g h (q | q)
    · exact hz _ q (.inr (.inr ⟨i, hi, .inr h⟩))
    · exact (s.cx i hi).yg g h (.inr q)
  · rintro k (q | q)
    · exact zl k q
    · exact Nat.lt_of_lt_of_le ((s.cx i hi).yl k (.inr q)) hs
theorem RX.below (s : RX Y X w S mb D xs vs) (b : Below w.heap.size w w') : RX Y X w' S mb D xs vs :=
  s.mv (fun k q => b.block k (s.bl k q)) (fun k q r => s.bd k r q) (fun k q => Nat.lt_of_lt_of_le (s.yl k q) b.size) b.size
/-- a cell has changed -/
theorem RX.cell (s : RX Y X w S mb D xs vs) {i : Nat} (hi : i < 8) {st' : Cst} {v' : Value} (c : CX (Ot Y X mb xs vs i) (xs i) w' st' v') (k : KY (Ot Y X mb xs vs i) w w') : RX Y X w' ⟨upn S.c i st', S.f⟩ mb D xs (upn vs i v') := by
  refine ⟨(k.block X (.inr (.inl rfl))).trans s.hd, map_same s.ow (k.block mb (.inr (.inr (.inl rfl)))), s.mi, s.ne, s.yx, s.ym, Nat.lt_of_lt_of_le s.lm k.size, fun j hj => ?_, s.fk⟩
  show CX _ (xs j) w' (upn S.c i st' j) (upn vs i v' j)
  by_cases e : j = i
  · subst e
    rw [upn_same, upn_same]
    have sub : ∀ x, Ot Y X mb xs (upn vs j v') j x → Ot Y X mb xs vs j x := by
      rintro x (q | q | q | ⟨l, hl, hne, q⟩)
      · exact .inl q
      · exact .inr (.inl q)
      · exact .inr (.inr (.inl q))
      · rw [upn_other _ _ _ _ hne] at q
        exact .inr (.inr (.inr ⟨l, hl, hne, q⟩))
    exact c.mv rfl (fun _ _ => rfl) (fun q => c.yx (sub _ q)) (fun g h q => c.yg g h (sub _ q)) (fun x q => c.yl x (sub _ q))
  · rw [upn_other _ _ _ _ e, upn_other _ _ _ _ e]
    have inX : Ot Y X mb xs vs i (xs j) := .inr (.inr (.inr ⟨j, hj, e, .inl rfl⟩))
    have inG : ∀ g, (vs j).ownBlock = some g → Ot Y X mb xs vs i g := fun g h => .inr (.inr (.inr ⟨j, hj, e, .inr h⟩))
    have sub : ∀ x, Ot Y X mb xs (upn vs i v') j x → Ot Y X mb xs vs j x ∨ v'.ownBlock = some x := by
      rintro x (q | q | q | ⟨l, hl, hne, q⟩)
      · exact .inl (.inl q)
      · exact .inl (.inr (.inl q))
      · exact .inl (.inr (.inr (.inl q)))
      · by_cases e2 : l = i
        · subst e2
          rw [upn_same] at q
          rcases q with q | q
          · exact .inl (.inr (.inr (.inr ⟨l, hl, hne, .inl q⟩)))
          · exact .inr q
        · rw [upn_other _ _ _ _ e2] at q
          exact .inl (.inr (.inr (.inr ⟨l, hl, hne, q⟩)))
    refine (s.cx j hj).mv (k.block _ inX) (fun g h => k.block _ (inG g h)) (fun q => ?_) (fun g h q => ?_) (fun x q => ?_)
    · rcases sub _ q with q | q
      · exact (s.cx j hj).yx q
      · exact c.yg _ q inX
    · rcases sub _ q with q | q
      · exact (s.cx j hj).yg g h q
      · exact c.yg _ q (inG g h)
    · rcases sub _ q with q | q
      · exact Nat.lt_of_lt_of_le ((s.cx j hj).yl x q) k.size
      · exact (c.own.lt x q).2
theorem RX.nx (s : RX Y X w S mb D xs vs) {i : Nat} (hi : i < 8) : xs i ≠ mb ∧ ∀ g, (vs i).ownBlock = some g → g ≠ mb := ⟨fun e => (s.cx i hi).yx (.inr (.inr (.inl e))), fun g h e => (s.cx i hi).yg g h (.inr (.inr (.inl e)))⟩
/-- the map has changed -/
theorem RX.map (s : RX Y X w S mb D xs vs) {f' : Int → Option Rc} {D' : DataW Unit} (g : w.grownBy w' (some mb)) (o : w'.ownsMap Try.prog 3 mE mb (cnt f') D') (mi : MI D' f') (fk : ∀ g, (f' g).isSome = true → 0 ≤ g ∧ g < 8) : RX Y X w' ⟨S.c, f'⟩ mb D' xs vs := by
  refine ⟨(g.block X s.lt (fun e => s.ne (by cases e; rfl))).trans s.hd, o, mi, s.ne, s.yx, s.ym, Nat.lt_of_lt_of_le s.lm g.size, fun i hi => ?_, fk⟩
  have nx := s.nx hi
  exact (s.cx i hi).mv (g.block _ (s.cx i hi).lt (fun e => nx.1 (by cases e; rfl))) (fun x h => g.block _ ((s.cx i hi).own.lt x h).2 (fun e => nx.2 x h (by cases e; rfl))) (s.cx i hi).yx (s.cx i hi).yg (fun x q => Nat.lt_of_lt_of_le ((s.cx i hi).yl x q) g.size)
end

theorem isc_yes (i : Int) (h0 : 0 ≤ i) (h1 : i < 8) (w : World) : Calls Try.prog 58 #[.int .i64 i] w fun r w' => r = .returned (.bool true) ∧ w' = w := by
  go_enter Try.func58, Try.ntmps58
  go_wp2_with fail
  go_ret
  exact ⟨rfl, rfl⟩
theorem isc_no (i : Int) (h : i < 0 ∨ 8 ≤ i) (w : World) : Calls Try.prog 58 #[.int .i64 i] w fun r w' => r = .returned (.bool false) ∧ w' = w := by
  by_cases h0 : i < 0
  · clear h
    go_enter Try.func58, Try.ntmps58
    go_wp2_with fail
    go_ret
    exact ⟨rfl, rfl⟩
  · have h1 : 8 ≤ i := by omega
    have h2 : ¬ (i < 8) := by omega
    clear h
    go_enter Try.func58, Try.ntmps58
    go_wp2_with fail
    go_ret
    exact ⟨by simp, rfl⟩
theorem cell_nil (i : Int) (w : World) : Calls Try.prog 28 #[.pointer none, .int .i64 i] w fun r w' => r = .returned (.pointer none) ∧ w' = w := by
  go_enter Try.func28, Try.ntmps28
  go_wp2_with fail
  go_ret
  exact ⟨rfl, rfl⟩
theorem cell_out (p : Option Addr) (i : Int) (h : i < 0 ∨ 8 ≤ i) (w : World) : Calls Try.prog 28 #[.pointer p, .int .i64 i] w fun r w' => r = .returned (.pointer none) ∧ w' = w := by
  cases p with
  | none => exact cell_nil i w
  | some a =>
    have I := hide (isc_no i h w)
    clear h
    go_enter Try.func28, Try.ntmps28
    go_wp2_with fail
    refine I.out.mono ?_
    rintro r w1 ⟨rfl, e1⟩
    obtain rfl := e1.symm
    go_wp2_with fail
    go_ret
    exact ⟨rfl, rfl⟩
theorem cell_at {Y : Nat → Prop} {X : Nat} {w : World} {S : Rst} {mb : Nat} {D : DataW Unit} {xs : Nat → Nat} {vs : Nat → Value} (s : RX Y X w S mb D xs vs) (i : Nat) (h : i < 8) :
    Calls Try.prog 28 #[.pointer (some ⟨X, 0, none⟩), .int .i64 (i : Int)] w fun r w' => r = .returned (pt (xs i)) ∧ w' = w := by
  have I := hide (isc_yes (i : Int) (by omega) (by omega) w)
  have c1 : w.cell? ⟨X, i, none⟩ = some (pt (xs i)) := (cell_of s.hd i).trans (hd9_at _ _ _ h)
  have h' : (i : Int) < 8 := by omega
  unfold pt at c1 ⊢
  have hlt := s.lt
  clear s
  go_enter Try.func28, Try.ntmps28
  go_wp2_with fail
  refine I.out.mono ?_
  rintro r w1 ⟨rfl, e1⟩
  obtain rfl := e1.symm
  go_wp2_with fail
  go_ret
  exact ⟨rfl, rfl⟩
theorem loadVar_rc {w : World} {b : Nat} {c : Array Value} {t : TypeId} (h : w.heap[b]? = some (.cells c t (0, 0))) (hc : c.size = 5) : (loadVar 73 ⟨b, 0, none⟩).run Try.prog w = .ok (.agg c) w :=
  run_loadVar_row w b t _ _ _ _ h Try.underlying73 rfl (by rw [(zero_of_info info_rc).2, hc])
theorem first_nil (g : Int) (w : World) : Calls Try.prog 27 #[.pointer none, .int .i64 g] w fun r w' => r = .returned (.tuple #[rv r0, .bool false]) ∧ Below w.heap.size w w' := by
  go_enter Try.func27, Try.ntmps27
  go_wp2_with fail
  exact bodyPost_ret (Ba.results_row2 Try.results27 _ _ _ _ _ rfl rfl (loadVar_rc (heap_new _ _) rfl)) rfl ⟨rfl, Ba.below_alloc _ _⟩
/-- what First tells -/
def fV (o : Option Rc) : Value := .tuple #[rv (o.getD r0), .bool o.isSome]
set_option maxRecDepth 100000 in
theorem first_any {Y : Nat → Prop} {X : Nat} {w : World} {S : Rst} {mb : Nat} {D : DataW Unit} {xs : Nat → Nat} {vs : Nat → Value} (s : RX Y X w S mb D xs vs) (g : Int) (hg : wfk g) :
    Calls Try.prog 27 #[.pointer (some ⟨X, 0, none⟩), .int .i64 g] w fun r w' => r = .returned (fV (S.f g)) ∧ Below w.heap.size w w' := by
  have y2 : w.cell? ⟨X, 8, none⟩ = some (.map (some mb)) := cell_of s.hd 8
  have hlt := s.lt
  have OW := hide (s.ow.alloc (.cells #[.int .i64 0, .int .i64 0, .int .i64 0, .int .i64 0, .bool false] 73))
  have HK := hide (key_kl g hg)
  have LS := hide (fun v ps (e : mE v = some (D.atKey (kl g) (rD r0), ps)) => look_shape s.mi e)
  have hh : Maps.has D (kl g) = (S.f g).isSome := s.mi.has g
  have ZR := hide (fun u => zero_rc u)
  have hmz : mE (rv r0) = some (rD r0, []) := rfl
  unfold fV
  generalize S.f g = o at *
  clear s hg
  cases o with
  | none =>
    simp only [Option.isSome_none, Option.getD_none] at hh LS ⊢
    unfold rv ra5 at LS ZR ⊢
    go_enter Try.func27, Try.ntmps27
    go_wp2_with (at_lookup; refine wpList_lookup_own_ok _ rfl _ _ 117 rfl 3 73 law Try.underlying117 mE (ZR.out _) (rD r0) [] hmz mb _ D rfl OW.out _ _ rfl HK.out ?_; intro v ps hv; obtain rfl := LS.out v ps hv; clear hv)
    exact bodyPost_ret (Ba.results_row2 Try.results27 _ _ _ _ _ rfl rfl (loadVar_rc (Ba.heap_below (heap_new w _) (Ba.below_alloc _ _)) rfl)) rfl ⟨rfl, btr (Ba.below_alloc _ _) (Ba.below_alloc _ _)⟩
  | some r =>
    simp only [Option.isSome_some, Option.getD_some] at hh LS ⊢
    unfold rv ra5 at LS ZR ⊢
    obtain ⟨a, b, c, d, e⟩ := r
    simp only at LS ⊢
    go_enter Try.func27, Try.ntmps27
    go_wp2_with (at_lookup; refine wpList_lookup_own_ok _ rfl _ _ 117 rfl 3 73 law Try.underlying117 mE (ZR.out _) (rD r0) [] hmz mb _ D rfl OW.out _ _ rfl HK.out ?_; intro v ps hv; obtain rfl := LS.out v ps hv; clear hv)
    exact bodyPost_ret (Ba.results_row2 Try.results27 _ _ _ _ _ rfl rfl (loadVar_rc (Ba.heap_below (heap_new w _) (Ba.below_alloc _ _)) rfl)) rfl ⟨rfl, btr (Ba.below_alloc _ _) (Ba.below_alloc _ _)⟩
set_option maxRecDepth 100000 in
theorem tell_no {Y : Nat → Prop} {X : Nat} {w : World} {S : Rst} {mb : Nat} {D : DataW Unit} {xs : Nat → Nat} {vs : Nat → Value} (s : RX Y X w S mb D xs vs) (r : Rc) (h0 : 0 ≤ r.c) (h1 : r.c < 8) (q : Rc) (hf : S.f r.c = some q) :
    Calls Try.prog 66 #[.pointer (some ⟨X, 0, none⟩), rv r] w fun o w' => o = .returned (.bool false) ∧ Below w.heap.size w w' := by
  have wf : wfk r.c := by unfold wfk; simp [Lit.wf, IntKind.min, IntKind.max, IntKind.bits, IntKind.signed]; omega
  have FI := hide (first_any (s.below (Ba.below_alloc w (.cells (ra5 r) 73))) r.c wf)
  rw [hf] at FI
  unfold fV at FI
  simp only [Option.getD_some, Option.isSome_some] at FI
  unfold rv ra5 at FI ⊢
  clear s hf wf
  go_enter Try.func66, Try.ntmps66
  go_wp2_with fail
  refine FI.out.mono ?_
  rintro o w1 ⟨rfl, b1⟩
  have B1 := hide (btr (Ba.below_alloc _ _) b1)
  clear b1
  go_wp2_with fail
  go_ret
  exact ⟨rfl, btr B1.out (Ba.below_alloc _ _)⟩
set_option maxRecDepth 100000 in
theorem tell_yes {Y : Nat → Prop} {X : Nat} {w : World} {S : Rst} {mb : Nat} {D : DataW Unit} {xs : Nat → Nat} {vs : Nat → Value} (s : RX Y X w S mb D xs vs) (r : Rc) (h0 : 0 ≤ r.c) (h1 : r.c < 8) (hf : S.f r.c = none) :
    Calls Try.prog 66 #[.pointer (some ⟨X, 0, none⟩), rv r] w fun o w' => o = .returned (.bool true) ∧ (∃ D', RX Y X w' ⟨S.c, upf S.f r.c (some r)⟩ mb D' xs vs) ∧ KY Y w w' := by
  have wf : wfk r.c := by unfold wfk; simp [Lit.wf, IntKind.min, IntKind.max, IntKind.bits, IntKind.signed]; omega
  have FI := hide (first_any (s.below (Ba.below_alloc w (.cells (ra5 r) 73))) r.c wf)
  rw [hf] at FI
  unfold fV at FI
  simp only [Option.getD_none, Option.isSome_none] at FI
  have hb : (w.alloc (.cells (ra5 r) 73)).heap[w.heap.size]? = some (.cells (ra5 r) 73 (0, 0)) := heap_new _ _
  have HB := hide hb
  have HS := hide s
  have WF := hide wf
  have HF := hide hf
  clear s hf wf hb
  unfold rv ra5 at FI ⊢
  go_enter Try.func66, Try.ntmps66
  go_wp2_with fail
  refine FI.out.mono ?_
  rintro o w1 ⟨rfl, b1⟩
  have B1 := hide (btr (Ba.below_alloc _ _) b1)
  have HB1 := hide ((b1.block w.heap.size (by rw [World.size_alloc]; omega)).trans HB.out)
  clear b1 HB FI
  go_upto_region 4 with fail
  have B2 := hide (btr B1.out (Ba.below_alloc w1 (.cells (ra5 r0) 73)))
  have HB2 := hide (((Ba.below_alloc w1 (.cells (ra5 r0) 73)).block w.heap.size (Ba.heap_lt HB1.out)).trans HB1.out)
  have S2 := hide (HS.out.below B2.out)
  unfold ra5 at B2 HB2 S2
  generalize w1.alloc (.cells #[.int .i64 r0.c, .int .i64 r0.p, .int .i64 r0.g, .int .i64 r0.wi, .bool r0.wr] 73) = w2 at *
  obtain ⟨w3, hrun, o3, g3⟩ := (map_same (w' := w2.drew) S2.out.ow rfl).update law Try.underlying117 (Nat.lt_of_le_of_lt (cnt_le _) (by unfold maxLen; decide)) (key_kl r.c WF.out) (mE_v r)
  unfold rv ra5 at hrun
  have y8 : w2.cell? ⟨X, 8, none⟩ = some (.map (some mb)) := cell_of S2.out.hd 8
  have z0 := cell_of HB2.out 0
  have z1 := cell_of HB2.out 1
  have z2 := cell_of HB2.out 2
  have z3 := cell_of HB2.out 3
  have z4 := cell_of HB2.out 4
  simp at z0 z1 z2 z3 z4
  have KY3 : Hid (KY Y w w3) := (KY.of (btr B2.out (Ba.bdrew1 w2)) HS.out.yl).trans (KY.grown g3 (fun k q => Nat.lt_of_lt_of_le (HS.out.yl k q) B2.out.size) (fun g e q => HS.out.ym (by cases e; exact q)))
  have RX3 : Hid (RX Y X w3 ⟨S.c, upf S.f r.c (some r)⟩ mb (D.put (kl r.c) (rD r)) xs vs) := by
    refine (S2.out.below (Ba.bdrew1 w2)).map g3 ?_ (S2.out.mi.put WF.out r) (fun g e => ?_)
    · rw [cnt_put h0 h1 HF.out]; exact o3
    · by_cases q : g = r.c
      · rw [q]; exact ⟨h0, h1⟩
      · rw [upf_other _ _ _ _ q] at e; exact S2.out.fk g e
  clear S2 HB2 HB1 B1 B2 o3 g3 HS
  go_region
  all_goals
    go_wp2_with fail
    go_ret
    exact ⟨rfl, ⟨_, RX3.out⟩, KY3.out⟩
end Rep
end Go.Proofs.Ytekdcfdjohlfcaa
/- Package report, over this seat's program: Put. -/
namespace Go.Proofs.Ytekdcfdjohlfcaa
open Go.ChangeShapes Go.WideShapes Go.ChangeAt Go.RowKit
namespace Rep
open Ck Ce
open Ba (hide)
open Ep (tidOf clkOf ownB)

section
variable {Y Z : Nat → Prop} {X : Nat} {w w' : World} {S : Rst} {mb : Nat} {D : DataW Unit} {xs : Nat → Nat} {vs : Nat → Value}
theorem RX.less (s : RX Y X w S mb D xs vs) (h : ∀ k, Z k → Y k) : RX Z X w S mb D xs vs := s.mv (fun _ _ => rfl) (fun k q r => s.bd k r (h k q)) (fun k q => s.yl k (h k q)) (Nat.le_refl _)
theorem RX.box (s : RX Y X w S mb D xs vs) (o : Obj) : RX (fun k => Y k ∨ k = w.heap.size) X (w.alloc o) S mb D xs vs := by
  refine s.mv (fun k q => (Ba.below_alloc w o).block k (s.bl k q)) (fun k q r => ?_) (fun k q => ?_) (Ba.below_alloc w o).size
  · rcases q with q | q
    · exact s.bd k r q
    · have := s.bl k r; omega
  · rw [World.size_alloc]
    rcases q with q | q
    · exact Nat.lt_succ_of_lt (s.yl k q)
    · omega
end
/-- an access -/
structure Aq where
  p : Int
  g : Int
  c : Int
  wr : Bool
def aV (a : Aq) : Array Value := #[.int .i64 a.p, .int .i64 a.g, .int .i64 a.c, .bool a.wr]
/-- what the cell answers, and what it is then -/
def acS (a : Aq) (st : Cst) (e : Int) (l : List Int) : Cst := if a.wr then wrS e else rdS st e l
def acR (a : Aq) (st : Cst) (e : Int) (l : List Int) : Int := if a.wr then wrR st e l else rdR st e l
def rcOf (a : Aq) (x : Int) : Rc := ⟨a.c, a.p, a.g, x, a.wr⟩
def putF (S : Rst) (a : Aq) (x : Int) : Int → Option Rc := if x = 0 ∨ (S.f a.c).isSome = true then S.f else upf S.f a.c (some (rcOf a x))
def putS (S : Rst) (a : Aq) (i : Nat) (e : Int) (l : List Int) : Rst := ⟨upn S.c i (acS a (S.c i) e l), putF S a (acR a (S.c i) e l)⟩
def putB (S : Rst) (a : Aq) (i : Nat) (e : Int) (l : List Int) : Bool := !(acR a (S.c i) e l == 0) && (S.f a.c).isNone
def badA (a : Aq) : Prop := a.c < 0 ∨ 8 ≤ a.c ∨ a.p < 0 ∨ a.g < 0
set_option maxRecDepth 100000 in
theorem put_arg (o : Option Addr) (a : Aq) (e q : Value) (h : badA a) (w : World) :
    Calls Try.prog 51 #[.pointer o, .agg (aV a), e, q] w fun r w' => r = .returned (.tuple #[.bool false, .int .i64 1]) ∧ Below w.heap.size w w' := by
  obtain ⟨p, g, c, wr⟩ := a
  unfold badA at h
  unfold aV
  simp only at h ⊢
  by_cases hc : c < 0 ∨ 8 ≤ c
  · have I := hide (fun u => isc_no c hc u)
    clear h hc
    go_enter Try.func51, Try.ntmps51
    go_wp2_with fail
    refine (I.out _).mono ?_
    rintro r w1 ⟨rfl, rfl⟩
    go_wp2_with fail
    go_ret2
    exact ⟨rfl, Ba.below_alloc _ _⟩
  · have I := hide (fun u => isc_yes c (by omega) (by omega) u)
    by_cases hp : p < 0
    · clear h hc
      go_enter Try.func51, Try.ntmps51
      go_wp2_with fail
      refine (I.out _).mono ?_
      rintro r w1 ⟨rfl, rfl⟩
      go_wp2_with fail
      go_ret2
      exact ⟨rfl, Ba.below_alloc _ _⟩
    · have hg : g < 0 := by omega
      clear h hc
      go_enter Try.func51, Try.ntmps51
      go_wp2_with fail
      refine (I.out _).mono ?_
      rintro r w1 ⟨rfl, rfl⟩
      go_wp2_with fail
      go_ret2
      exact ⟨rfl, Ba.below_alloc _ _⟩
set_option maxRecDepth 100000 in
theorem put_nil (a : Aq) (e : Int) (a0 : 0 ≤ e) (a1 : e ≤ 18446744073709551615) (q : Value) (h : ¬ badA a) (w : World) :
    Calls Try.prog 51 #[.pointer none, .agg (aV a), .int .u64 e, q] w fun r w' => r = .returned (.tuple #[.bool false, .int .i64 (accE e)]) ∧ Below w.heap.size w w' := by
  obtain ⟨p, g, c, wr⟩ := a
  unfold badA at h
  unfold aV
  simp only at h ⊢
  have I := hide (fun u => isc_yes c (by omega) (by omega) u)
  have hp : ¬ (p < 0) := by omega
  have hg : ¬ (g < 0) := by omega
  have CN := hide (fun u => cell_nil c u)
  have RN := hide (fun u => read_no e a0 a1 none q u (.inr rfl))
  have WN := hide (fun u => write_no e a0 a1 none q u (.inr rfl))
  have h7 : ¬ (accE e = 0) := by unfold accE; split <;> decide
  clear h
  generalize accE e = x at *
  cases wr
  all_goals
    go_enter Try.func51, Try.ntmps51
    go_wp2_with fail
    refine (I.out _).mono ?_
    rintro r w1 ⟨rfl, rfl⟩
    go_wp2_with fail
    refine (CN.out _).mono ?_
    rintro r w1 ⟨rfl, rfl⟩
    go_wp2_with fail
    first
      | refine (RN.out _).mono ?_
      | refine (WN.out _).mono ?_
    rintro r w1 ⟨rfl, rfl⟩
    go_wp2_with fail
    go_ret2
    exact ⟨rfl, Ba.below_alloc _ _⟩
section
variable {Y : Nat → Prop} {X : Nat} {w : World} {S : Rst} {mb : Nat} {D : DataW Unit} {xs : Nat → Nat} {vs : Nat → Value}
set_option maxRecDepth 100000 in
theorem put_bad (s : RX Y X w S mb D xs vs) (a : Aq) (e : Int) (a0 : 0 ≤ e) (a1 : e ≤ 18446744073709551615) (q : Value) (h : ¬ badA a) (ho : ownB e = false) :
    Calls Try.prog 51 #[.pointer (some ⟨X, 0, none⟩), .agg (aV a), .int .u64 e, q] w fun r w' => r = .returned (.tuple #[.bool false, .int .i64 1]) ∧ Below w.heap.size w w' := by
  have s1 := s.box (.cells (aV a) 59)
  obtain ⟨p, g, c, wr⟩ := a
  unfold badA at h
  unfold aV at s1 ⊢
  simp only at h s1 ⊢
  obtain ⟨i, rfl⟩ : ∃ i : Nat, c = (i : Int) := ⟨c.toNat, by omega⟩
  have I := hide (fun u => isc_yes (i : Int) (by omega) (by omega) u)
  have hp : ¬ (p < 0) := by omega
  have hg : ¬ (g < 0) := by omega
  have CN := hide (cell_at s1 i (by omega))
  have RN := hide (fun u => read_no e a0 a1 (some ⟨xs i, 0, none⟩) q u (.inl ho))
  have WN := hide (fun u => write_no e a0 a1 (some ⟨xs i, 0, none⟩) q u (.inl ho))
  have h1 : accE e = 1 := by unfold accE; rw [if_pos ho]
  rw [h1] at RN WN
  unfold pt at CN
  clear h s s1 ho h1
  cases wr
  all_goals
    go_enter Try.func51, Try.ntmps51
    go_wp2_with fail
    refine (I.out _).mono ?_
    rintro r w1 ⟨rfl, rfl⟩
    go_wp2_with fail
    refine CN.out.mono ?_
    rintro r w1 ⟨rfl, rfl⟩
    go_wp2_with fail
    first
      | refine (RN.out _).mono ?_
      | refine (WN.out _).mono ?_
    rintro r w1 ⟨rfl, rfl⟩
    go_wp2_with fail
    go_ret2
    exact ⟨rfl, Ba.below_alloc _ _⟩
/-- what Put gives -/
def PutR (Y : Nat → Prop) (X : Nat) (w : World) (S' : Rst) (mb : Nat) (xs : Nat → Nat) (b : Bool) (r : Ending) (w' : World) : Prop := r = .returned (.tuple #[.bool b, .int .i64 0]) ∧ (∃ D' vs', RX Y X w' S' mb D' xs vs') ∧ KY Y w w'
set_option maxRecDepth 100000 in
set_option maxHeartbeats 3200000 in
theorem put_ok (s : RX Y X w S mb D xs vs) (a : Aq) (i : Nat) (hi : a.c = (i : Int)) (h : ¬ badA a) (e : Int) (ho : ownB e = true) (b : Nat) (l : List Int) (hc : CL Y w b l) :
    Calls Try.prog 51 #[.pointer (some ⟨X, 0, none⟩), .agg (aV a), .int .u64 e, .pointer (some ⟨b, 0, none⟩)] w (PutR Y X w (putS S a i e l) mb xs (putB S a i e l)) := by
  unfold PutR
  have s1 := s.box (.cells (aV a) 59)
  have hi8 : i < 8 := by unfold badA at h; omega
  have hb1 : (w.alloc (.cells (aV a) 59)).heap[w.heap.size]? = some (.cells (aV a) 59 (0, 0)) := heap_new _ _
  have hc1 : CL (fun k => Y k ∨ k = w.heap.size) (w.alloc (.cells (aV a) 59)) b l := (hc.keep (KY.of (Ba.below_alloc w _) s.yl)).mono fun _ q => .inl q
  have k1 : KY Y w (w.alloc (.cells (aV a) 59)) := KY.of (Ba.below_alloc w _) s.yl
  have OP : Hid (∀ (f : Nat), (a.wr = true → f = 65) → (a.wr = false → f = 64) → Calls Try.prog f #[.pointer (some ⟨xs i, 0, none⟩), .int .u64 e, .pointer (some ⟨b, 0, none⟩)] (w.alloc (.cells (aV a) 59)) fun r w' => r = .returned (.tuple #[.int .i64 (acR a (S.c i) e l), .int .i64 0]) ∧ (∃ v', CX (Ot (fun k => Y k ∨ k = w.heap.size) X mb xs vs i) (xs i) w' (acS a (S.c i) e l) v') ∧ KY (Ot (fun k => Y k ∨ k = w.heap.size) X mb xs vs i) (w.alloc (.cells (aV a) 59)) w') := by
    intro f h1 h2
    unfold acR acS
    cases hw : a.wr
    · rw [h2 hw]
      exact read_ok ⟨_, s1.cx i hi8⟩ e ho b l (hc1.mono fun _ q => .inl q)
    · rw [h1 hw]
      exact write_ok ⟨_, s1.cx i hi8⟩ e ho b l (hc1.mono fun _ q => .inl q)
  have CN := hide (cell_at s1 i hi8)
  have I := hide (fun u => isc_yes (i : Int) (by omega) (by omega) u)
  unfold pt at CN
  have HB := hide hb1
  have S1 := hide s1
  have K1 := hide k1
  obtain ⟨x, hx⟩ : ∃ x, acR a (S.c i) e l = x := ⟨_, rfl⟩
  obtain ⟨st', hst⟩ : ∃ st', acS a (S.c i) e l = st' := ⟨_, rfl⟩
  unfold putS putB
  rw [hx, hst] at OP ⊢
  clear hx hst s s1 k1 hb1 hc hc1
  obtain ⟨p, g, c, wr⟩ := a
  simp only at hi
  subst hi
  unfold badA at h
  unfold aV at OP CN HB S1 K1 ⊢
  simp only at h OP CN HB S1 K1 ⊢
  have hp : ¬ (p < 0) := by omega
  have hg : ¬ (g < 0) := by omega
  have hi0 : (0 : Int) ≤ (i : Int) := by omega
  have hi1 : (i : Int) < 8 := by omega
  clear h
  generalize hw1 : w.alloc (.cells #[.int .i64 p, .int .i64 g, .int .i64 (i : Int), .bool wr] 59) = w1 at *
  have HW := hide hw1
  clear hw1
  have TL : Hid (∀ w2 v2, CX (Ot (fun k => Y k ∨ k = w.heap.size) X mb xs vs i) (xs i) w2 st' v2 → KY (Ot (fun k => Y k ∨ k = w.heap.size) X mb xs vs i) w1 w2 → RX (fun k => Y k ∨ k = w.heap.size) X w2 ⟨upn S.c i st', S.f⟩ mb D xs (upn vs i v2) ∧ KY Y w w2 ∧ w2.heap[w.heap.size]? = some (.cells #[.int .i64 p, .int .i64 g, .int .i64 (i : Int), .bool wr] 59 (0, 0))) := by
    intro w2 v2 c2 k2
    exact ⟨S1.out.cell hi8 c2 k2, K1.out.trans (k2.mono fun _ q => .inl (.inl q)), (k2.block _ (.inl (.inr rfl))).trans HB.out⟩
  have y0 := cell_of HB.out 0
  have y1 := cell_of HB.out 1
  have y2 := cell_of HB.out 2
  have y3 := cell_of HB.out 3
  simp at y0 y1 y2 y3
  clear HB S1 K1
  have OPW : Hid (wr = true → _) := fun q => OP.out 65 (fun _ => rfl) (fun z => by rw [q] at z; cases z)
  have OPR : Hid (wr = false → _) := fun q => OP.out 64 (fun z => by rw [q] at z; cases z) (fun _ => rfl)
  clear OP
  by_cases hx0 : x = 0
  · subst hx0
    have TF : Hid (putF S ⟨p, g, (i : Int), wr⟩ 0 = S.f) := by show _ = _; unfold putF; rw [if_pos (.inl rfl)]
    rw [TF.out]
    cases wr
    all_goals
      go_enter Try.func51, Try.ntmps51
      go_wp2_with fail
      rw [HW.out]
      refine (I.out _).mono ?_
      rintro r w0 ⟨rfl, e0⟩
      obtain rfl := e0.symm
      go_wp2_with fail
      refine CN.out.mono ?_
      rintro r w0 ⟨rfl, e0⟩
      obtain rfl := e0.symm
      go_wp2_with fail
      first
        | refine (OPR.out (by first | rfl | trivial)).mono ?_
        | refine (OPW.out (by first | rfl | trivial)).mono ?_
      rintro r w2 ⟨rfl, ⟨v2, c2⟩, k2⟩
      have F2 := hide (TL.out w2 v2 c2 k2)
      clear c2 k2 TL
      go_wp2_with fail
      go_ret2
      exact ⟨rfl, ⟨_, _, F2.out.1.less fun _ q => .inl q⟩, F2.out.2.1⟩
  have hx1 : (x == 0) = false := beq_eq_false_iff_ne.2 hx0
  have TN : Hid (∀ w2 v2 q, S.f (i : Int) = some q → RX (fun k => Y k ∨ k = w.heap.size) X w2 ⟨upn S.c i st', S.f⟩ mb D xs (upn vs i v2) → _) := fun w2 v2 q hq s2 => tell_no s2 (rcOf ⟨p, g, (i : Int), wr⟩ x) hi0 hi1 q hq
  have TY : Hid (∀ w2 v2, S.f (i : Int) = none → RX (fun k => Y k ∨ k = w.heap.size) X w2 ⟨upn S.c i st', S.f⟩ mb D xs (upn vs i v2) → _) := fun w2 v2 hq s2 => tell_yes s2 (rcOf ⟨p, g, (i : Int), wr⟩ x) hi0 hi1 hq
  unfold rcOf rv ra5 at TN TY
  simp only at TN TY
  cases hf : S.f (i : Int) with
  | some q =>
    have TF : Hid (putF S ⟨p, g, (i : Int), wr⟩ x = S.f) := by show _ = _; unfold putF; rw [if_pos (.inr (by simp only [hf]; rfl))]
    rw [TF.out, hx1]
    simp only [Option.isNone_some, Bool.and_false]
    clear TY
    cases wr
    all_goals
      go_enter Try.func51, Try.ntmps51
      go_wp2_with fail
      rw [HW.out]
      refine (I.out _).mono ?_
      rintro r w0 ⟨rfl, e0⟩
      obtain rfl := e0.symm
      go_wp2_with fail
      refine CN.out.mono ?_
      rintro r w0 ⟨rfl, e0⟩
      obtain rfl := e0.symm
      go_wp2_with fail
      first
        | refine (OPR.out (by first | rfl | trivial)).mono ?_
        | refine (OPW.out (by first | rfl | trivial)).mono ?_
      rintro r w2 ⟨rfl, ⟨v2, c2⟩, k2⟩
      have F2 := hide (TL.out w2 v2 c2 k2)
      have u0 := cell_of F2.out.2.2 0
      have u1 := cell_of F2.out.2.2 1
      have u2 := cell_of F2.out.2.2 2
      have u3 := cell_of F2.out.2.2 3
      simp at u0 u1 u2 u3
      clear c2 k2 TL
      go_wp2_with fail
      refine (TN.out w2 v2 q hf F2.out.1).mono ?_
      rintro r w3 ⟨rfl, b3⟩
      have F3 := hide (F2.out.1.below b3)
      have K3 := hide (F2.out.2.1.trans (KY.of b3 (fun k q => F2.out.1.yl k (.inl q))))
      clear b3
      go_wp2_with fail
      go_ret2
      exact ⟨rfl, ⟨_, _, F3.out.less fun _ q => .inl q⟩, K3.out⟩
  | none =>
    have TF : Hid (putF S ⟨p, g, (i : Int), wr⟩ x = upf S.f (i : Int) (some (rcOf ⟨p, g, (i : Int), wr⟩ x))) := by
      show _ = _; unfold putF; rw [if_neg (by simp only [hf]; simp [hx0])]
    rw [TF.out, hx1]
    simp only [Option.isNone_none, Bool.and_true, Bool.not_false]
    clear TN
    cases wr
    all_goals
      go_enter Try.func51, Try.ntmps51
      go_wp2_with fail
      rw [HW.out]
      refine (I.out _).mono ?_
      rintro r w0 ⟨rfl, e0⟩
      obtain rfl := e0.symm
      go_wp2_with fail
      refine CN.out.mono ?_
      rintro r w0 ⟨rfl, e0⟩
      obtain rfl := e0.symm
      go_wp2_with fail
      first
        | refine (OPR.out (by first | rfl | trivial)).mono ?_
        | refine (OPW.out (by first | rfl | trivial)).mono ?_
      rintro r w2 ⟨rfl, ⟨v2, c2⟩, k2⟩
      have F2 := hide (TL.out w2 v2 c2 k2)
      have u0 := cell_of F2.out.2.2 0
      have u1 := cell_of F2.out.2.2 1
      have u2 := cell_of F2.out.2.2 2
      have u3 := cell_of F2.out.2.2 3
      simp at u0 u1 u2 u3
      clear c2 k2 TL
      go_wp2_with fail
      refine (TY.out w2 v2 hf F2.out.1).mono ?_
      rintro r w3 ⟨rfl, ⟨D3, s3⟩, k3⟩
      have F3 := hide s3
      have K3 := hide (F2.out.2.1.trans (k3.mono fun _ q => .inl q))
      clear s3 k3
      go_wp2_with fail
      go_ret2
      exact ⟨rfl, ⟨_, _, F3.out.less fun _ q => .inl q⟩, K3.out⟩
end
end Rep
end Go.Proofs.Ytekdcfdjohlfcaa
/- Package report, over this seat's program: Retire, New. -/
namespace Go.Proofs.Ytekdcfdjohlfcaa
open Go.ChangeShapes Go.WideShapes Go.ChangeAt Go.RowKit
namespace Rep
open Ck Ce
open Ba (hide KF)
open Ep (tidOf clkOf ownB)

def badR (tid cut : Int) : Prop := tid < 0 ∨ 256 ≤ tid ∨ cut < 0 ∨ 1048576 < cut
set_option maxRecDepth 100000 in
theorem retire_nil' (tid cut : Int) (h : ¬ badR tid cut) (w : World) : Calls Try.prog 53 #[.pointer none, .int .i64 tid, .int .i64 cut] w fun r w' => r = .returned (.int .i64 7) ∧ w' = w := by
  unfold badR at h
  have CN := hide (fun u => cell_nil 0 u)
  have RN := hide (fun u => Ce.retire_nil tid cut (by omega) (by omega) (by omega) (by omega) u)
  clear h
  go_enter Try.func53, Try.ntmps53
  go_wp2_with fail
  go_loopw [9] (fun i wr => i = .int .i64 0 ∧ wr = w) (fun _ _ => 0)
  case atStart => exact ⟨rfl, rfl⟩
  case round =>
    obtain ⟨rfl, rfl⟩ := hrel
    go_wp2_with fail
    refine (CN.out _).mono ?_
    rintro r w1 ⟨rfl, e1⟩
    obtain rfl := e1.symm
    go_wp2_with fail
    refine (RN.out _).mono ?_
    rintro r w1 ⟨rfl, e1⟩
    obtain rfl := e1.symm
    go_wp2_with fail
    go_ret
    exact ⟨rfl, rfl⟩
set_option maxRecDepth 100000 in
theorem retire_arg' (o : Option Addr) (tid cut : Int) (h : badR tid cut) (w : World) (hc : ∃ p, Calls Try.prog 28 #[.pointer o, .int .i64 0] w fun r w' => r = .returned (.pointer p) ∧ w' = w) : Calls Try.prog 53 #[.pointer o, .int .i64 tid, .int .i64 cut] w fun r w' => r = .returned (.int .i64 1) ∧ w' = w := by
  obtain ⟨p, hc⟩ := hc
  have CN := hide hc
  have RN := hide (fun u => Ce.retire_arg p tid cut h u)
  clear h hc
  go_enter Try.func53, Try.ntmps53
  go_wp2_with fail
  go_loopw [9] (fun i wr => i = .int .i64 0 ∧ wr = w) (fun _ _ => 0)
  case atStart => exact ⟨rfl, rfl⟩
  case round =>
    obtain ⟨rfl, rfl⟩ := hrel
    go_wp2_with fail
    refine CN.out.mono ?_
    rintro r w1 ⟨rfl, e1⟩
    obtain rfl := e1.symm
    go_wp2_with fail
    refine (RN.out _).mono ?_
    rintro r w1 ⟨rfl, e1⟩
    obtain rfl := e1.symm
    go_wp2_with fail
    go_ret
    exact ⟨rfl, rfl⟩
/-- the first k cells have forgotten a tid -/
def rtC (S : Rst) (tid cut : Int) (k : Nat) : Nat → Cst := fun j => if j < k then retS (S.c j) tid cut else S.c j
theorem rtC_zero (S : Rst) (tid cut : Int) : rtC S tid cut 0 = S.c := by funext j; simp [rtC]
theorem rtC_succ (S : Rst) (tid cut : Int) (k : Nat) : upn (rtC S tid cut k) k (retS (rtC S tid cut k k) tid cut) = rtC S tid cut (k + 1) := by
  funext j
  unfold upn rtC
  by_cases e : j = k
  · subst e; simp
  · rw [if_neg e]
    by_cases h : j < k
    · rw [if_pos h, if_pos (by omega)]
    · rw [if_neg h, if_neg (by omega)]
section
variable {Y : Nat → Prop} {X : Nat} {w : World} {S : Rst} {mb : Nat} {D : DataW Unit} {xs : Nat → Nat} {vs : Nat → Value}
set_option maxRecDepth 100000 in
theorem retire_ok' (s : RX Y X w S mb D xs vs) (tid cut : Int) (h : ¬ badR tid cut) :
    Calls Try.prog 53 #[.pointer (some ⟨X, 0, none⟩), .int .i64 tid, .int .i64 cut] w fun r w' => r = .returned (.int .i64 0) ∧ (∃ vs', RX Y X w' ⟨rtC S tid cut 8, S.f⟩ mb D xs vs') ∧ KY Y w w' := by
  unfold badR at h
  have S0 : Hid (RX Y X w ⟨rtC S tid cut 0, S.f⟩ mb D xs vs) := by rw [rtC_zero]; exact s
  have YL := hide s.yl
  clear s
  go_enter Try.func53, Try.ntmps53
  go_wp2_with fail
  go_loopw [9] (fun i wr => ∃ (k : Nat) (v : Nat → Value), k ≤ 8 ∧ i = .int .i64 (k : Int) ∧ RX Y X wr ⟨rtC S tid cut k, S.f⟩ mb D xs v ∧ KY Y w wr) (fun i _ => 8 - (intOf i).toNat)
  case atStart => exact ⟨0, vs, by decide, rfl, S0.out, KY.refl _ _⟩
  case round =>
    clear S0
    obtain ⟨k, v, hk, rfl, s, ky⟩ := hrel
    have KH := hide ky
    by_cases hlt : k < 8
    · have hlt' : (k : Int) < 8 := by omega
      have CA := hide (cell_at s k hlt)
      have RT := hide (retire_ok ⟨_, s.cx k hlt⟩ tid cut (by omega) (by omega) (by omega) (by omega))
      unfold RetR at RT
      unfold pt at CA
      have SH := hide s
      clear s ky
      go_wp2_with fail
      refine CA.out.mono ?_
      rintro r w1 ⟨rfl, e1⟩
      obtain rfl := e1.symm
      go_wp2_with fail
      refine RT.out.mono ?_
      rintro r w2 ⟨rfl, ⟨v2, c2⟩, k2⟩
      have S2 := SH.out.cell hlt c2 k2
      rw [rtC_succ] at S2
      have S2H := hide S2
      have K2 := hide (KH.out.trans (k2.mono fun _ q => .inl q))
      clear c2 k2 S2 RT CA SH KH
      go_wp2_with fail
      go_roundw
      case rel => exact ⟨k + 1, _, by omega, by go_num, S2H.out, K2.out⟩
      case measure => simp [intOf]; omega
    · obtain rfl : k = 8 := by omega
      have SH := hide s
      clear s ky
      go_wp2_with fail
      go_ret
      exact ⟨rfl, ⟨_, SH.out⟩, KH.out⟩
end
/-- a report without accesses -/
def c00 : Cst := ⟨0, [], false⟩
def S00 : Rst := ⟨fun _ => c00, fun _ => none⟩
def hp (B k : Nat) : Nat → Value := fun j => if j < k then pt (B + j) else .pointer none
theorem hp_succ (B k : Nat) : upn (hp B k) k (pt (B + k)) = hp B (k + 1) := by
  funext j
  unfold upn hp
  by_cases e : j = k
  · subst e; simp
  · rw [if_neg e]
    by_cases h : j < k
    · rw [if_pos h, if_pos (by omega)]
    · rw [if_neg h, if_neg (by omega)]
theorem cnew_is (w : World) : Calls Try.prog 49 #[] w fun r w' => r = .returned (pt w.heap.size) ∧ w' = w.alloc (.cells #[.int .u64 0, .slice none 0 0, .bool false] 134) := by
  unfold pt
  go_enter Try.func49, Try.ntmps49
  go_wp2_with fail
  go_ret
  exact ⟨rfl, rfl⟩
end Rep
end Go.Proofs.Ytekdcfdjohlfcaa
/- Package report, over this seat's program: New, Races. -/
namespace Go.Proofs.Ytekdcfdjohlfcaa
open Go.ChangeShapes Go.WideShapes Go.ChangeAt Go.RowKit
namespace Rep
open Ck Ce
open Ba (hide KF)
open Ep (tidOf clkOf ownB)

def cel0 : Obj := .cells #[.int .u64 0, .slice none 0 0, .bool false] 134
/-- while New goes on -/
structure NI (w W wr : World) (k : Nat) : Prop where
  sz : wr.heap.size = w.heap.size + 2 + k
  hd : wr.heap[w.heap.size + 1]? = some (.cells (hd9 (hp (w.heap.size + 2) k) w.heap.size) 120 (0, 0))
  ce : ∀ j, j < k → wr.heap[w.heap.size + 2 + j]? = some (.cells #[.int .u64 0, .slice none 0 0, .bool false] 134 (0, 0))
  ky : KY (fun x => x < w.heap.size + 1) W wr
theorem NI.step {w W wr : World} {k : Nat} (h : NI w W wr k) (hk : k < 8) : NI w W (((wr.drew).alloc (.cells #[.int .u64 0, .slice none 0 0, .bool false] 134)).setCell ⟨w.heap.size + 1, k, none⟩ (pt (w.heap.size + 2 + k))) (k + 1) := by
  have b1 : Below wr.heap.size wr (wr.drew.alloc (.cells #[.int .u64 0, .slice none 0 0, .bool false] 134)) := btr (Ba.bdrew1 wr) (Ba.below_alloc wr.drew _)
  have hs : wr.drew.heap.size = wr.heap.size := rfl
  have hz : (((wr.drew).alloc (.cells #[.int .u64 0, .slice none 0 0, .bool false] 134)).setCell ⟨w.heap.size + 1, k, none⟩ (pt (w.heap.size + 2 + k))).heap.size = wr.heap.size + 1 := by
    simp [World.setCell, World.size_alloc]
  have e1 := (b1.block (w.heap.size + 1) (by rw [h.sz]; omega)).trans h.hd
  refine ⟨by rw [hz, h.sz]; omega, ?_, fun j hj => ?_, ?_⟩
  · rw [Ba.heap_setCell_same e1, hd9_set _ _ _ hk, hp_succ]
  · rw [Below.heap_setCell _ _ _ _ (by show w.heap.size + 2 + j ≠ w.heap.size + 1; omega)]
    by_cases e : j = k
    · subst e
      have := heap_new wr.drew (.cells #[.int .u64 0, .slice none 0 0, .bool false] 134)
      rw [hs, h.sz] at this
      exact this
    · rw [b1.block _ (by rw [h.sz]; omega)]
      exact h.ce j (by omega)
  · exact h.ky.trans ((KY.of b1 (fun x (q : x < w.heap.size + 1) => by rw [h.sz]; omega)).trans (KY.set _ (by omega) _ _))
theorem NI.fin {w wr : World} (h : NI w ((w.alloc (.map #[] 0)).alloc (.cells (hd9 (hp (w.heap.size + 2) 0) w.heap.size) 120)) wr 8) : RX (Lw w) (w.heap.size + 1) wr S00 w.heap.size (.map []) (fun j => w.heap.size + 2 + j) (fun _ => .slice none 0 0) ∧ KY (Lw w) w wr := by
  have b1 := btr (Ba.below_alloc w (.map #[] 0)) (Ba.below_alloc _ (.cells (hd9 (hp (w.heap.size + 2) 0) w.heap.size) 120))
  have hsz := h.sz
  refine ⟨⟨?_, ?_, ⟨Maps.tidy_empty, fun g => rfl, fun g r z e => (by cases e)⟩, by omega, fun q => ?_, fun q => ?_, by omega, fun i hi => ?_, fun g e => by cases e⟩, ?_⟩
  · rw [h.hd]
    rfl
  · have o := (World.ownsMap_made (H := Unit) w Try.prog 3 mE).alloc (.cells (hd9 (hp (w.heap.size + 2) 0) w.heap.size) 120)
    exact map_same o (h.ky.block w.heap.size (by omega))
  · unfold Lw at q; omega
  · unfold Lw at q; omega
  · refine ⟨h.ce i hi, World.ownsRow_nil _ _ _ _, by simp [Value.ownBlock], ?_, by simp [Value.ownBlock], ?_, ⟨.inl rfl, by simp [S00, c00], srt_nil⟩⟩
    · rintro (q | q | q | ⟨j, hj, hne, q | q⟩)
      · unfold Lw at q; omega
      · omega
      · omega
      · simp only at q; omega
      · simp [Value.ownBlock] at q
    · rintro k (q | q | q | ⟨j, hj, hne, q | q⟩)
      · unfold Lw at q; omega
      · omega
      · omega
      · simp only at q; omega
      · simp [Value.ownBlock] at q
  · exact (KY.of b1 fun _ q => q).trans (h.ky.mono fun k q => Nat.lt_succ_of_lt q)
set_option maxRecDepth 100000 in
set_option maxHeartbeats 1600000 in
theorem new_any' (w : World) : Calls Try.prog 20 #[] w fun r w' => r = .returned (pt (w.heap.size + 1)) ∧ RX (Lw w) (w.heap.size + 1) w' S00 w.heap.size (.map []) (fun j => w.heap.size + 2 + j) (fun _ => .slice none 0 0) ∧ KY (Lw w) w w' := by
  have hmm := @run_makeMap Try.prog
  go_enter Try.func20, Try.ntmps20
  go_wp2_with fail
  clear hmm
  have N0 : Hid (NI w ((w.alloc (.map #[] 0)).alloc (.cells (hd9 (hp (w.heap.size + 2) 0) w.heap.size) 120)) ((w.alloc (.map #[] 0)).alloc (.cells (hd9 (hp (w.heap.size + 2) 0) w.heap.size) 120)) 0) := by
    refine ⟨by rw [World.size_alloc, World.size_alloc], ?_, fun j hj => absurd hj (Nat.not_lt_zero _), KY.refl _ _⟩
    have := heap_new (w.alloc (.map #[] 0)) (.cells (hd9 (hp (w.heap.size + 2) 0) w.heap.size) 120)
    rwa [World.size_alloc] at this
  have F8 := hide (fun wr h => @NI.fin w wr h)
  have e0 : Obj.cells (hd9 (hp (w.heap.size + 2) 0) w.heap.size) 120 = .cells #[.pointer none, .pointer none, .pointer none, .pointer none, .pointer none, .pointer none, .pointer none, .pointer none, .map (some w.heap.size)] 120 := rfl
  rw [e0] at N0 F8
  clear e0
  generalize (w.alloc (.map #[] 0)).alloc (.cells #[.pointer none, .pointer none, .pointer none, .pointer none, .pointer none, .pointer none, .pointer none, .pointer none, .map (some w.heap.size)] 120) = W at *
  go_loopw [6] (fun i wr => ∃ k : Nat, k ≤ 8 ∧ i = .int .i64 (k : Int) ∧ NI w W wr k) (fun i _ => 8 - (intOf i).toNat)
  case atStart => exact ⟨0, by decide, rfl, N0.out⟩
  case round =>
    clear N0
    obtain ⟨k, hk, rfl, n⟩ := hrel
    have NH := hide n
    by_cases hlt : k < 8
    · have hlt' : (k : Int) < 8 := by omega
      have N2 := hide (n.step hlt)
      have hx : (wr.drew.alloc (.cells #[.int .u64 0, .slice none 0 0, .bool false] 134)).heap[w.heap.size + 1]? = some (.cells (hd9 (hp (w.heap.size + 2) k) w.heap.size) 120 (0, 0)) := ((Ba.below_alloc wr.drew _).block _ (by show _ < wr.heap.size; rw [n.sz]; omega)).trans n.hd
      have y1 : (wr.drew.alloc (.cells #[.int .u64 0, .slice none 0 0, .bool false] 134)).cell? ⟨w.heap.size + 1, k, none⟩ = some (.pointer none) := by
        rw [cell_of hx, hd9_at _ _ _ hlt]
        unfold hp; rw [if_neg (by omega)]
      have y2 : (wr.drew.alloc (.cells #[.int .u64 0, .slice none 0 0, .bool false] 134)).frozen? ⟨w.heap.size + 1, k, none⟩ = false := Ba.frozen_of hx k
      have CN := hide (cnew_is wr.drew)
      have hs : wr.drew.heap.size = w.heap.size + 2 + k := n.sz
      rw [hs] at CN
      unfold pt at CN N2
      clear n hx hs
      generalize hWA : wr.drew.alloc (.cells #[.int .u64 0, .slice none 0 0, .bool false] 134) = WA at *
      clear hWA
      go_wp2_with fail
      go_region_with (go_at_call 49; refine CN.out.mono ?_; rintro r w1 ⟨rfl, rfl⟩)
      all_goals
        go_wp2_with fail
        go_roundw
        case rel => exact ⟨k + 1, by omega, by go_num, N2.out⟩
        case measure => simp [intOf]; omega
    · obtain rfl : k = 8 := by omega
      clear n
      go_wp2_with fail
      go_ret
      exact ⟨rfl, F8.out _ NH.out⟩
/-- the first races of the cells below k -/
def rl (f : Int → Option Rc) : Nat → List Rc
  | 0 => []
  | k + 1 => rl f k ++ (f (k : Int)).toList
def rcC (l : List Rc) : List Value := l.flatMap fun r => (ra5 r).toList
theorem rcC_app (l : List Rc) (r : Rc) : rcC (l ++ [r]) = rcC l ++ (ra5 r).toList := by simp [rcC]
theorem rl_len (f : Int → Option Rc) : ∀ k, (rl f k).length ≤ k
  | 0 => Nat.le_refl _
  | k + 1 => by
    have := rl_len f k
    unfold rl
    rw [List.length_append]
    cases f (k : Int) <;> simp <;> omega
theorem info_rc3 : (Try.prog.info? 73).map (fun i => (i.zero, i.size, i.bytes)) = some (some (rv r0), 5, 40) := by kernel_rfl
theorem cell_five (w : World) (a b c d e : Value) (t : TypeId) : ∀ j u, [a, b, c, d, e][j]? = some u → (w.alloc (.cells #[a, b, c, d, e] t)).cell? ((⟨w.heap.size, 0, none⟩ : Addr).add j) = some u := by
  intro j u hj
  match j, hj with
  | 0, hj | 1, hj | 2, hj | 3, hj | 4, hj =>
    simp at hj
    subst hj
    simp [Addr.add]
theorem one_five (r : Rc) : ∀ u ∈ (ra5 r).toList, u.oneCell' = true := by
  intro u hu
  simp [ra5] at hu
  rcases hu with rfl | rfl | rfl | rfl | rfl <;> rfl
theorem wf_small {g : Int} (h0 : 0 ≤ g) (h1 : g < 1000) : wfk g := by unfold wfk; simp [Lit.wf, IntKind.min, IntKind.max, IntKind.bits, IntKind.signed]; omega
/-- what Races gives -/
def RcR (w : World) (l : List Rc) (r : Ending) (w' : World) : Prop := ∃ v, r = .returned v ∧ w'.ownsRow w.heap.size 73 5 v l.length (rcC l) ∧ Below w.heap.size w w'
theorem races_nil (w : World) : Calls Try.prog 24 #[.pointer none] w (RcR w []) := by
  unfold RcR
  have FN := hide (fun g u => first_nil g u)
  unfold rv ra5 at FN
  go_enter Try.func24, Try.ntmps24
  go_wp2_with fail
  go_loopw [3, 7] (fun v i wr => ∃ k : Nat, k ≤ 8 ∧ v = .slice none 0 0 ∧ i = .int .i64 (k : Int) ∧ Below w.heap.size w wr) (fun _ i _ => 8 - (intOf i).toNat)
  case atStart => exact ⟨0, by decide, rfl, rfl, Below.refl _ _⟩
  case round =>
    obtain ⟨k, hk, rfl, rfl, b⟩ := hrel
    have BH := hide b
    clear b
    by_cases hlt : k < 8
    · have hlt' : (k : Int) < 8 := by omega
      go_wp2_with fail
      refine (FN.out _ _).mono ?_
      rintro r w1 ⟨rfl, b1⟩
      have B1 := hide (btr BH.out b1)
      clear b1
      go_wp2_with fail
      go_roundw
      case rel => exact ⟨k + 1, by omega, rfl, by go_num, btr B1.out (Ba.below_alloc _ _)⟩
      case measure => simp [intOf]; omega
    · obtain rfl : k = 8 := by omega
      go_wp2_with fail
      go_ret
      exact ⟨_, rfl, World.ownsRow_nil _ _ _ _, BH.out⟩
section
variable {Y : Nat → Prop} {X : Nat} {w : World} {S : Rst} {mb : Nat} {D : DataW Unit} {xs : Nat → Nat} {vs : Nat → Value}
set_option maxRecDepth 100000 in
set_option maxHeartbeats 1600000 in
theorem races_any' (s : RX Y X w S mb D xs vs) : Calls Try.prog 24 #[.pointer (some ⟨X, 0, none⟩)] w (RcR w (rl S.f 8)) := by
  unfold RcR
  have FI := hide (fun u (b : Below w.heap.size w u) g (hg : wfk g) => first_any (s.below b) g hg)
  unfold fV at FI
  obtain ⟨i1, hi1, hy1, hy2, hy3⟩ := info_parts info_rc3
  have INA := hide (And.intro hi1 (And.intro hy1 (And.intro hy2 hy3)))
  clear hi1 hy1 hy2 hy3 s
  go_enter Try.func24, Try.ntmps24
  go_wp2_with fail
  go_loopw [3, 7] (fun v i wr => ∃ k : Nat, k ≤ 8 ∧ i = .int .i64 (k : Int) ∧ wr.ownsRow w.heap.size 73 5 v (rl S.f k).length (rcC (rl S.f k)) ∧ Below w.heap.size w wr) (fun _ i _ => 8 - (intOf i).toNat)
  case atStart => exact ⟨0, by decide, rfl, World.ownsRow_nil _ _ _ _, Below.refl _ _⟩
  case round =>
    rename_i v
    obtain ⟨k, hk, rfl, o, b⟩ := hrel
    have OH := hide o
    have BH := hide b
    by_cases hlt : k < 8
    · have hlt' : (k : Int) < 8 := by omega
      have FK := hide (FI.out wr b (k : Int) (wf_small (by omega) (by omega)))
      have hE : rl S.f (k + 1) = rl S.f k ++ (S.f (k : Int)).toList := rfl
      have HE := hide hE
      have HL := hide (rl_len S.f k)
      clear o b hE
      generalize S.f (k : Int) = o at *
      cases o with
      | none =>
        simp only [Option.getD_none, Option.isSome_none] at FK
        unfold rv ra5 at FK
        go_wp2_with fail
        refine FK.out.mono ?_
        rintro r w1 ⟨rfl, b1⟩
        have O1 := hide (own_sm OH.out (fun g e => b1.block g (OH.out.lt g e).2))
        have B1 := hide (btr BH.out b1)
        clear b1 FK
        go_wp2_with fail
        go_roundw
        case rel => exact ⟨k + 1, by omega, by go_num, by rw [HE.out]; simp only [Option.toList_none, List.append_nil]; exact own_sm O1.out (fun g e => (Ba.below_alloc w1 _).block g (O1.out.lt g e).2), btr B1.out (Ba.below_alloc _ _)⟩
        case measure => simp [intOf]; omega
      | some rc =>
        simp only [Option.getD_some, Option.isSome_some] at FK
        unfold rv ra5 at FK
        go_wp2_with fail
        refine FK.out.mono ?_
        rintro r w1 ⟨rfl, b1⟩
        have b2 := btr (btr b1 (Ba.below_alloc w1 (.cells #[.int .i64 rc.c, .int .i64 rc.p, .int .i64 rc.g, .int .i64 rc.wi, .bool rc.wr] 73))) (Ba.below_alloc _ (.cells #[.int .i64 rc.c, .int .i64 rc.p, .int .i64 rc.g, .int .i64 rc.wi, .bool rc.wr] 73))
        have O2 := hide (own_sm OH.out (fun g e => b2.block g (OH.out.lt g e).2))
        have B2 := hide (btr BH.out b2)
        have CF := hide (cell_five (w1.alloc (.cells #[.int .i64 rc.c, .int .i64 rc.p, .int .i64 rc.g, .int .i64 rc.wi, .bool rc.wr] 73)) (.int .i64 rc.c) (.int .i64 rc.p) (.int .i64 rc.g) (.int .i64 rc.wi) (.bool rc.wr) 73)
        rw [World.size_alloc] at CF
        have ON := hide (one_five rc)
        have L2 := hide B2.out.size
        have hn1 : (rl S.f k).length + 1 ≤ maxLen := by have := HL.out; simp only [maxLen]; omega
        have hn2 : ((rl S.f k).length + 1) * 40 ≤ 140737488355328 := by have := HL.out; omega
        clear b1 b2 FK OH
        go_wp2_with (at_builtin; refine wpList_append_own_at _ rfl _ _ 65 rfl w.heap.size 73 i1 _ 5 40 Try.underlying65 INA.out.1 INA.out.2.1 INA.out.2.2.1 INA.out.2.2.2 rfl (by decide) _ _ _ rfl O2.out ⟨w1.heap.size + 1, 0, none⟩ 1 1 ((ra5 rc).toList) rfl rfl CF.out ON.out hn1 hn2 L2.out ?_)
        intro v' w' o' g' x' e'
        have O3 := hide o'
        have B3 : Hid (Below w.heap.size w w') := by
          refine ⟨g'.os.trans B2.out.os, g'.tape.trans B2.out.tape, g'.output.trans B2.out.output, Nat.le_trans B2.out.size g'.size, fun x hx => (g'.block x (Nat.lt_of_lt_of_le hx B2.out.size) (fun q => ?_)).trans (B2.out.block x hx)⟩
          have := (O2.out.lt x q.symm).1
          omega
        clear o' g' x' e' O2 B2 CF ON L2 hn1 hn2
        go_wp2_with fail
        go_roundw
        case rel => exact ⟨k + 1, by omega, by go_num, by rw [HE.out, Option.toList_some, rcC_app, List.length_append]; exact O3.out, B3.out⟩
        case measure => simp [intOf]; omega
    · obtain rfl : k = 8 := by omega
      clear o b
      go_wp2_with fail
      go_ret
      exact ⟨_, rfl, OH.out, BH.out⟩
end
end Rep
end Go.Proofs.Ytekdcfdjohlfcaa
/- Layer 19's laws, over this seat's program: the small case that each of them asks. -/
namespace Go.Proofs.Ytekdcfdjohlfcaa
open Go.ChangeShapes Go.WideShapes Go.ChangeAt Go.RowKit
namespace Rep
open Ck Ce
open Ba (hide KF)
open Ep (tidOf clkOf ownB)

theorem RX.new {Y : Nat → Prop} {X : Nat} {w w' : World} {S : Rst} {mb : Nat} {D : DataW Unit} {xs : Nat → Nat} {vs : Nat → Value} (s : RX Y X w S mb D xs vs) (b : Below w.heap.size w w') : RX (Yp Y w w') X w' S mb D xs vs := by
  refine s.mv (fun k q => b.block k (s.bl k q)) (fun k q r => ?_) (fun k q => ?_) b.size
  · rcases q with q | q
    · exact s.bd k r q
    · have := s.bl k r; omega
  · rcases q with q | q
    · exact Nat.lt_of_lt_of_le (s.yl k q) b.size
    · exact q.2
def t1 : Aq := ⟨5, 0, 3, true⟩
def t2 : Aq := ⟨8, 1, 3, true⟩
def S01 : Rst := putS S00 t1 3 4294967297 []
def S02 : Rst := putS S01 t2 3 8589934593 []
theorem two_b1 : putB S00 t1 3 4294967297 [] = false := by decide
theorem two_b2 : putB S01 t2 3 8589934593 [] = true := by decide
theorem two_rl : rl S02.f 8 = [⟨3, 8, 1, 1, true⟩] := by rfl
set_option maxRecDepth 100000 in
set_option maxHeartbeats 3200000 in
theorem small19 (w : World) : Calls Try.prog 21 #[] w fun r w' => r = .returned (.bool true) ∧ Below w.heap.size w w' := by
  have NA := hide (new_any' w)
  unfold pt at NA
  go_enter Try.func21, Try.ntmps21
  go_wp2_with fail
  refine NA.out.mono ?_
  rintro r w1 ⟨rfl, s1, k1⟩
  have S1 := hide s1
  have K1 := hide k1
  clear s1 k1 NA
  obtain ⟨X, hX⟩ : ∃ X, w.heap.size + 1 = X := ⟨_, rfl⟩
  rw [hX] at S1 ⊢
  clear hX
  go_wp2_with fail
  refine (Ep.pack_ok 0 1 (by decide) (by decide) (by decide) (by decide) _).mono ?_
  rintro r w0 ⟨rfl, e0⟩
  obtain rfl := e0.symm
  go_wp2_with fail
  refine (Ep.pack_ok 1 1 (by decide) (by decide) (by decide) (by decide) _).mono ?_
  rintro r w0 ⟨rfl, e0⟩
  obtain rfl := e0.symm
  go_wp2_with fail
  refine (cnew_any _).mono ?_
  rintro r w2 ⟨b2, rfl, bl2, n2⟩
  have P1 := put_ok (S1.out.new bl2) t1 3 rfl (by unfold badA t1; decide) 4294967297 (by decide) b2 [] (n2 _)
  unfold PutR at P1
  rw [two_b1] at P1
  have K2 := hide (K1.out.trans (KY.of bl2 S1.out.yl))
  have PH := hide P1
  have SUB := hide (fun k (q : Lw w k) => Yp.sub (w := w1) (w' := w2) q)
  clear P1 n2 bl2 S1 K1
  unfold aV t1 at PH
  go_wp2_with fail
  refine PH.out.mono ?_
  rintro r w3 ⟨rfl, ⟨D3, vs3, s3⟩, k3⟩
  have S3 := hide (s3.less SUB.out)
  have K3 := hide (K2.out.trans (k3.mono SUB.out))
  clear s3 k3 PH K2 SUB
  go_wp2_with fail
  refine (cnew_any _).mono ?_
  rintro r w4 ⟨b4, rfl, bl4, n4⟩
  have P2 := put_ok (S3.out.new bl4) t2 3 rfl (by unfold badA t2; decide) 8589934593 (by decide) b4 [] (n4 _)
  unfold PutR at P2
  have K4 := hide (K3.out.trans (KY.of bl4 S3.out.yl))
  have hb2 : putB (putS S00 ⟨5, 0, 3, true⟩ 3 4294967297 []) t2 3 8589934593 [] = true := two_b2
  rw [hb2] at P2
  have PH := hide P2
  have SUB := hide (fun k (q : Lw w k) => Yp.sub (w := w3) (w' := w4) q)
  clear P2 n4 bl4 S3 K3 hb2
  unfold aV t2 at PH
  go_wp2_with fail
  refine PH.out.mono ?_
  rintro r w5 ⟨rfl, ⟨D5, vs5, s5⟩, k5⟩
  have S5 := hide (s5.less SUB.out)
  have K5 := hide (K4.out.trans (k5.mono SUB.out))
  clear s5 k5 PH K4 SUB
  have RS := races_any' S5.out
  have hrl : rl (putS (putS S00 ⟨5, 0, 3, true⟩ 3 4294967297 []) ⟨8, 1, 3, true⟩ 3 8589934593 []).f 8 = [⟨3, 8, 1, 1, true⟩] := two_rl
  rw [hrl] at RS
  unfold RcR at RS
  have RH := hide RS
  clear RS hrl
  go_wp2_with fail
  refine RH.out.mono ?_
  rintro r w6 ⟨v, rfl, o6, b6⟩
  have K6 := hide (K5.out.trans (KY.of b6 S5.out.yl))
  rcases o6.2 with ⟨-, q⟩ | ⟨gD, cD, cr, rfl, -⟩
  · cases q
  have q0 := o6.cellAt 0 (by decide)
  have q1 := o6.cellAt 1 (by decide)
  have q2 := o6.cellAt 2 (by decide)
  have q3 := o6.cellAt 3 (by decide)
  have q4 := o6.cellAt 4 (by decide)
  simp [rcC, ra5] at q0 q1 q2 q3 q4
  clear o6 b6 S5 K5 RH
  go_wp2_with fail
  go_ret
  exact ⟨rfl, K6.out.lw⟩
end Rep
end Go.Proofs.Ytekdcfdjohlfcaa
