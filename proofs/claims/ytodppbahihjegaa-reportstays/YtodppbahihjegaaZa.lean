/- Package report, over this seat's program: what lies in memory. -/
import Derived.Test.YtodppbahihjegaaAk
import Derived.Test.YtodppbahihjegaaAj
import Derived.Maps.RangeWalk
import Derived.Maps.Views
import Derived.Deep.WholeRow
import Derived.Deep.RegionHeld3
namespace Go.Proofs.Ytodppbahihjegaa
open Go.ChangeShapes Go.WideShapes Go.ChangeAt Go.RowKit
namespace Rep
open Ck Ce
open Ba (hide)
open Go.Maps (Keyed int_keyed keyOf_int_mk)

/-- a race -/
structure Rc where
  c : Int
  p : Int
  g : Int
  wi : Int
  wr : Bool
def r0 : Rc := ⟨0, 0, 0, 0, false⟩
def ra5 (r : Rc) : Array Value := #[.int .i64 r.c, .int .i64 r.p, .int .i64 r.g, .int .i64 r.wi, .bool r.wr]
def rv (r : Rc) : Value := .agg (ra5 r)
def rD (r : Rc) : DataW Unit := .agg [.lit (.int .i64 r.c), .lit (.int .i64 r.p), .lit (.int .i64 r.g), .lit (.int .i64 r.wi), .lit (.bool r.wr)]
def mE : Value → Option (DataW Unit × List MemPlace)
  | .agg a => match a.toList with
    | [.int .i64 c, .int .i64 p, .int .i64 g, .int .i64 x, .bool b] => some (rD ⟨c, p, g, x, b⟩, [])
    | _ => none
  | _ => none
theorem mE_v (r : Rc) : mE (rv r) = some (rD r, []) := rfl
theorem mE_inv {v : Value} {y : DataW Unit × List MemPlace} (h : mE v = some y) : ∃ r, v = rv r ∧ y = (rD r, []) := by
  unfold mE at h
  split at h
  · rename_i a
    split at h
    · rename_i c p g x b he
      cases h
      refine ⟨⟨c, p, g, x, b⟩, ?_, rfl⟩
      unfold rv ra5
      congr 1
      exact Array.ext' (by rw [he])
    · cases h
  · cases h
theorem rD_inj {r s : Rc} (h : rD r = rD s) : r = s := by
  obtain ⟨a, b, c, d, e⟩ := r
  obtain ⟨a', b', c', d', e'⟩ := s
  unfold rD at h
  simp at h
  obtain ⟨rfl, rfl, rfl, rfl, rfl⟩ := h
  rfl
theorem law : Keyed Try.prog 3 := int_keyed Try.underlying3
theorem info_rc : (Try.prog.info? 70).map (fun i => (i.zero, i.size)) = some (some (rv r0), 5) := by kernel_rfl
theorem zero_rc (w : World) : (zeroValue 70).run Try.prog w = .ok (rv r0) w := (zero_of_info info_rc).1 w
def kl (g : Int) : Lit := .int .i64 g
theorem kl_inj {a b : Int} (h : kl a = kl b) : a = b := by cases h; rfl
def wfk (g : Int) : Prop := (Lit.int .i64 g).wf = true
theorem key_kl (g : Int) (h : wfk g) : keyOf Try.prog 3 (.int .i64 g) = some (kl g) := keyOf_int_mk Try.underlying3 h
theorem lit_key (g : Int) (h : wfk g) : WideAt.IsKeyLit (kl g) := law.key (key_kl g h)
/-- a map reads as which cell has which race -/
structure MI (D : DataW Unit) (f : Int → Option Rc) : Prop where
  tidy : Maps.Tidy D
  has : ∀ g, Maps.has D (kl g) = (f g).isSome
  at_ : ∀ g r z, f g = some r → D.atKey (kl g) z = rD r
theorem MI.no {D : DataW Unit} {f : Int → Option Rc} (h : MI D f) {g : Int} (e : f g = none) (z : DataW Unit) : D.atKey (kl g) z = z := Maps.atKey_of_not_has (by rw [h.has, e]; rfl) z
def upf (f : Int → Option Rc) (g : Int) (v : Option Rc) : Int → Option Rc := fun x => if x = g then v else f x
theorem upf_same (f : Int → Option Rc) (g : Int) (v : Option Rc) : upf f g v g = v := if_pos rfl
theorem upf_other (f : Int → Option Rc) (g x : Int) (v : Option Rc) (h : x ≠ g) : upf f g v x = f x := if_neg h
theorem MI.put {D : DataW Unit} {f : Int → Option Rc} (h : MI D f) {g : Int} (hg : wfk g) (r : Rc) : MI (D.put (kl g) (rD r)) (upf f g (some r)) := by
  refine ⟨h.tidy.put (lit_key g hg) _, fun x => ?_, fun x r' z e => ?_⟩
  · by_cases q : x = g
    · subst q
      rw [Maps.has_put_same h.tidy.isMap (lit_key x hg), upf_same]; rfl
    · rw [Maps.has_put_other (fun e => q (kl_inj e)), h.has, upf_other _ _ _ _ q]
  · by_cases q : x = g
    · subst q
      rw [upf_same] at e
      cases e
      exact Maps.atKey_put_same h.tidy.isMap (lit_key x hg) _ _
    · rw [upf_other _ _ _ _ q] at e
      rw [Maps.atKey_put_other (fun e => q (kl_inj e))]
      exact h.at_ x r' z e
theorem look_shape {D : DataW Unit} {f : Int → Option Rc} (h : MI D f) {g : Int} {v : Value} {ps : List MemPlace} (e : mE v = some (D.atKey (kl g) (rD r0), ps)) : v = rv ((f g).getD r0) := by
  obtain ⟨r, rfl, q⟩ := mE_inv e
  cases hf : f g with
  | none =>
    rw [h.no hf] at q
    rw [← rD_inj (congrArg Prod.fst q)]
    rfl
  | some p =>
    rw [h.at_ g p _ hf] at q
    rw [← rD_inj (congrArg Prod.fst q)]
    rfl
/-- how many races there are -/
def o1 (o : Option Rc) : Nat := if o.isSome then 1 else 0
def cnt (f : Int → Option Rc) : Nat := o1 (f 0) + o1 (f 1) + o1 (f 2) + o1 (f 3) + o1 (f 4) + o1 (f 5) + o1 (f 6) + o1 (f 7)
theorem o1_le (o : Option Rc) : o1 o ≤ 1 := by unfold o1; split <;> omega
theorem cnt_le (f : Int → Option Rc) : cnt f ≤ 8 := by
  unfold cnt
  have h0 := o1_le (f 0); have h1 := o1_le (f 1); have h2 := o1_le (f 2); have h3 := o1_le (f 3); have h4 := o1_le (f 4); have h5 := o1_le (f 5); have h6 := o1_le (f 6); have h7 := o1_le (f 7)
  omega
theorem eight {g : Int} (h0 : 0 ≤ g) (h1 : g < 8) : g = 0 ∨ g = 1 ∨ g = 2 ∨ g = 3 ∨ g = 4 ∨ g = 5 ∨ g = 6 ∨ g = 7 := by omega
theorem cnt_put {f : Int → Option Rc} {g : Int} (h0 : 0 ≤ g) (h1 : g < 8) (hf : f g = none) (r : Rc) : cnt (upf f g (some r)) = cnt f + 1 := by
  rcases eight h0 h1 with rfl | rfl | rfl | rfl | rfl | rfl | rfl | rfl <;> simp [cnt, upf, o1, hf] <;> omega

theorem own_sm {w w' : World} {base : Nat} {e : TypeId} {sz : Nat} {v : Value} {n : Nat} {xs : List Value} (h : w.ownsRow base e sz v n xs) (hb : ∀ g, v.ownBlock = some g → w'.heap[g]? = w.heap[g]?) : w'.ownsRow base e sz v n xs := by
  refine ⟨h.1, ?_⟩
  rcases h.2 with q | ⟨g, cap, cr, rfl, h0, hg, q⟩
  · exact .inl q
  · exact .inr ⟨g, cap, cr, rfl, h0, (hb g rfl).trans hg, q⟩
theorem _root_.Go.Proofs.Ytodppbahihjegaa.Ce.CX.mv {Y Z : Nat → Prop} {X : Nat} {w w' : World} {st : Cst} {v : Value} (h : CX Y X w st v) (hX : w'.heap[X]? = w.heap[X]?) (hg : ∀ g, v.ownBlock = some g → w'.heap[g]? = w.heap[g]?) (zx : ¬ Z X) (zg : ∀ g, v.ownBlock = some g → ¬ Z g) (zl : ∀ k, Z k → k < w'.heap.size) : CX Z X w' st v :=
  ⟨hX.trans h.head, own_sm h.own hg, h.ne, zx, zg, zl, h.gd⟩

/-- a report: its cells, its first races -/
structure Rst where
  c : Nat → Cst
  f : Int → Option Rc
def pt (b : Nat) : Value := .pointer (some ⟨b, 0, none⟩)
def hd9 (p : Nat → Value) (mb : Nat) : Array Value := #[p 0, p 1, p 2, p 3, p 4, p 5, p 6, p 7, .map (some mb)]
theorem hd9_at (p : Nat → Value) (mb i : Nat) (h : i < 8) : (hd9 p mb)[i]? = some (p i) := by
  match i, h with
  | 0, _ | 1, _ | 2, _ | 3, _ | 4, _ | 5, _ | 6, _ | 7, _ => rfl
def upn {α : Type} (p : Nat → α) (k : Nat) (v : α) : Nat → α := fun i => if i = k then v else p i
theorem upn_same {α : Type} (p : Nat → α) (k : Nat) (v : α) : upn p k v k = v := if_pos rfl
theorem upn_other {α : Type} (p : Nat → α) (k i : Nat) (v : α) (h : i ≠ k) : upn p k v i = p i := if_neg h
theorem hd9_set (p : Nat → Value) (mb k : Nat) (h : k < 8) (v : Value) : (hd9 p mb).setIfInBounds k v = hd9 (upn p k v) mb := by
  match k, h with
  | 0, _ | 1, _ | 2, _ | 3, _ | 4, _ | 5, _ | 6, _ | 7, _ => rfl
/-- the report's own blocks, and what is foreign to its cell i -/
def Rb (X mb : Nat) (xs : Nat → Nat) (vs : Nat → Value) : Nat → Prop := fun k => k = X ∨ k = mb ∨ ∃ j, j < 8 ∧ (k = xs j ∨ (vs j).ownBlock = some k)
def Ot (Y : Nat → Prop) (X mb : Nat) (xs : Nat → Nat) (vs : Nat → Value) (i : Nat) : Nat → Prop := fun k => Y k ∨ k = X ∨ k = mb ∨ ∃ j, j < 8 ∧ j ≠ i ∧ (k = xs j ∨ (vs j).ownBlock = some k)
structure RX (Y : Nat → Prop) (X : Nat) (w : World) (S : Rst) (mb : Nat) (D : DataW Unit) (xs : Nat → Nat) (vs : Nat → Value) : Prop where
  hd : w.heap[X]? = some (.cells (hd9 (fun i => pt (xs i)) mb) 113 (0, 0))
  ow : w.ownsMap Try.prog 3 mE mb (cnt S.f) D
  mi : MI D S.f
  ne : X ≠ mb
  yx : ¬ Y X
  ym : ¬ Y mb
  lm : mb < w.heap.size
  cx : ∀ i, i < 8 → CX (Ot Y X mb xs vs i) (xs i) w (S.c i) (vs i)
  fk : ∀ g, (S.f g).isSome = true → 0 ≤ g ∧ g < 8
def RW (Y B : Nat → Prop) (X : Nat) (w : World) (S : Rst) : Prop := ∃ mb D xs vs, RX Y X w S mb D xs vs ∧ B = Rb X mb xs vs
end Rep
end Go.Proofs.Ytodppbahihjegaa
