/- Package watch, over this seat's program: what lies in memory; find. -/
import Derived.Test.YtakbbhngcdccpaaGreatCx
import Derived.Test.YtakbbhngcdccpaaGreatFa
import Derived.Maps.RangeWalk
import Derived.Maps.Views
import Derived.Deep.RegionHeld3
namespace Go.Proofs.YtakbbhngcdccpaaGreat
open Go.ChangeShapes Go.WideShapes Go.ChangeAt Go.RowKit
namespace Wa
open Ck
open Go.Maps (Keyed int_keyed keyOf_int_mk)

/-- a goroutine's tid and clock as a value, and as read -/
def mV (t : Int) (b : Nat) : Value := .agg #[.int .i64 t, .pointer (some ⟨b, 0, none⟩)]
def mZ : Value := .agg #[.int .i64 0, .pointer none]
def mD (t : Int) (b : Nat) : DataW Unit := .agg [.lit (.int .i64 t), .lit (.int .i64 (b : Int))]
def mE : Value → Option (DataW Unit × List MemPlace)
  | .agg a => match a.toList with
    | [.int .i64 t, .pointer none] => if t = 0 then some (.nil, []) else none
    | [.int .i64 t, .pointer (some ⟨b, 0, none⟩)] => some (mD t b, [])
    | _ => none
  | _ => none
theorem mE_z : mE mZ = some (.nil, []) := rfl
theorem mE_v (t : Int) (b : Nat) : mE (mV t b) = some (mD t b, []) := rfl
theorem mE_inv {v : Value} {y : DataW Unit × List MemPlace} (h : mE v = some y) : (v = mZ ∧ y = (.nil, [])) ∨ ∃ t b, v = mV t b ∧ y = (mD t b, []) := by
  unfold mE at h
  split at h
  · rename_i a
    split at h
    · rename_i t he
      split at h
      · cases h
        rename_i ht
        subst ht
        left
        refine ⟨?_, rfl⟩
        unfold mZ
        congr 1
        exact Array.ext' (by rw [he])
      · cases h
    · rename_i t b he
      cases h
      right
      refine ⟨t, b, ?_, rfl⟩
      unfold mV
      congr 1
      exact Array.ext' (by rw [he])
    · cases h
  · cases h
theorem mD_inj {t t' : Int} {b b' : Nat} (h : mD t b = mD t' b') : t = t' ∧ b = b' := by
  unfold mD at h
  simp at h
  omega
theorem law : Keyed Tryz.prog 3 := int_keyed Tryz.underlying3
theorem info_tm : (Tryz.prog.info? 71).map (fun i => (i.zero, i.size)) = some (some mZ, 2) := by kernel_rfl
theorem zero_tm (w : World) : (zeroValue 71).run Tryz.prog w = .ok mZ w := (zero_of_info info_tm).1 w
/-- a key -/
def kl (g : Int) : Lit := .int .i64 g
theorem kl_inj {a b : Int} (h : kl a = kl b) : a = b := by cases h; rfl
theorem key_kl (g : Int) (h : (Lit.int .i64 g).wf = true) : keyOf Tryz.prog 3 (.int .i64 g) = some (kl g) := keyOf_int_mk Tryz.underlying3 h
/-- a map reads as who has which tid and clock -/
structure MI (D : DataW Unit) (f : Int → Option (Nat × Nat)) : Prop where
  tidy : Maps.Tidy D
  has : ∀ g, Maps.has D (kl g) = (f g).isSome
  at_ : ∀ g t b z, f g = some (t, b) → D.atKey (kl g) z = mD (t : Int) b
theorem MI.no {D : DataW Unit} {f : Int → Option (Nat × Nat)} (h : MI D f) {g : Int} (e : f g = none) (z : DataW Unit) : D.atKey (kl g) z = z := Maps.atKey_of_not_has (by rw [h.has, e]; rfl) z
theorem lit_key (g : Int) (h : (Lit.int .i64 g).wf = true) : WideAt.IsKeyLit (kl g) := law.key (key_kl g h)
def upf (f : Int → Option (Nat × Nat)) (g : Int) (v : Option (Nat × Nat)) : Int → Option (Nat × Nat) := fun x => if x = g then v else f x
theorem upf_same (f : Int → Option (Nat × Nat)) (g : Int) (v : Option (Nat × Nat)) : upf f g v g = v := if_pos rfl
theorem upf_other (f : Int → Option (Nat × Nat)) (g x : Int) (v : Option (Nat × Nat)) (h : x ≠ g) : upf f g v x = f x := if_neg h
theorem MI.put {D : DataW Unit} {f : Int → Option (Nat × Nat)} (h : MI D f) {g : Int} (hg : (Lit.int .i64 g).wf = true) (t b : Nat) : MI (D.put (kl g) (mD (t : Int) b)) (upf f g (some (t, b))) := by
  refine ⟨h.tidy.put (lit_key g hg) _, fun x => ?_, fun x t' b' z e => ?_⟩
  · by_cases q : x = g
    · subst q
      rw [Maps.has_put_same h.tidy.isMap (lit_key x hg), upf_same]; rfl
    · rw [Maps.has_put_other (fun e => q (kl_inj e)), h.has, upf_other _ _ _ _ q]
  · by_cases q : x = g
    · subst q
      rw [upf_same] at e
      cases e
      exact Maps.atKey_put_same h.tidy.isMap (lit_key x hg) _ _
    · rw [upf_other _ _ _ _ q] at e
      rw [Maps.atKey_put_other (fun e => q (kl_inj e))]
      exact h.at_ x t' b' z e
theorem MI.del {D : DataW Unit} {f : Int → Option (Nat × Nat)} (h : MI D f) (g : Int) : MI (D.del (kl g)) (upf f g none) := by
  refine ⟨h.tidy.del _, fun x => ?_, fun x t' b' z e => ?_⟩
  · by_cases q : x = g
    · subst q
      rw [Maps.has_del_same, upf_same]; rfl
    · rw [Maps.has_del_other (fun e => q (kl_inj e)), h.has, upf_other _ _ _ _ q]
  · by_cases q : x = g
    · subst q
      rw [upf_same] at e
      cases e
    · rw [upf_other _ _ _ _ q] at e
      rw [Maps.atKey_del_other (fun e => q (kl_inj e))]
      exact h.at_ x t' b' z e
/-- the clocks by their blocks -/
def hx (h : Nat → Option (List Int)) : Nat → Option (Nat × List Int) := fun b => (h b).map fun l => (b, l)
theorem hx_at {h : Nat → Option (List Int)} {b : Nat} {l : List Int} (e : h b = some l) : hx h b = some (b, l) := by simp [hx, e]
theorem hx_upd (h : Nat → Option (List Int)) (b : Nat) (l : List Int) : upd (hx h) b (b, l) = hx (upd h b l) := by
  funext j
  unfold upd hx
  by_cases e : j = b <;> simp [e]
def Ext (h h' : Nat → Option (List Int)) : Prop := ∀ b l, h b = some l → h' b = some l
theorem Ext.refl (h : Nat → Option (List Int)) : Ext h h := fun _ _ e => e
theorem Ext.trans {a b c : Nat → Option (List Int)} (h : Ext a b) (k : Ext b c) : Ext a c := fun x l e => k x l (h x l e)
theorem Ext.upd {h : Nat → Option (List Int)} {A : Nat} {l : List Int} (e : h A = none) : Ext h (upd h A l) := by
  intro b l' hb
  have : b ≠ A := fun q => by rw [q, e] at hb; cases hb
  rw [upd_other _ _ _ _ this]
  exact hb
theorem Kp.mono {X Y : Nat → Prop} {w w' : World} (h : Kp X w w') (i : ∀ k, Y k → X k) : Kp Y w w' := ⟨h.os, h.tape, h.output, h.size, fun k hk => h.block k (i k hk)⟩
theorem Kp.of {X : Nat → Prop} {w w' : World} (h : Below w.heap.size w w') (hX : ∀ k, X k → k < w.heap.size) : Kp X w w' := ⟨h.os, h.tape, h.output, h.size, fun k hk => h.block k (hX k hk)⟩
theorem cx_ext {X X' : Nat → Prop} {w w' : World} {h : Nat → Option (Nat × List Int)} (hs : Cx X w h) (hb : ∀ k, k < w.heap.size → ¬ X k → w'.heap[k]? = w.heap[k]?)
    (hi : ∀ k, X' k → X k ∨ w.heap.size ≤ k) (hd : ∀ k, X' k → k < w'.heap.size) : Cx X' w' h := by
  obtain ⟨f, st, hf⟩ := hs
  have key : ∀ i c, f i = some c → c.b < w.heap.size ∧ ∀ x, c.g = some x → x < w.heap.size := fun i c hc => by
    obtain ⟨cap, r⟩ := st.rep i c hc
    exact ⟨r.lt, fun x hx => r.glt hx⟩
  refine ⟨f, ⟨fun i c hc => ?_, fun i c hc => ?_, st.apart, hd⟩, hf⟩
  · obtain ⟨cap, r⟩ := st.rep i c hc
    have ok := st.ok i c hc
    exact ⟨cap, r.keep (hb _ r.lt ok.2.2.1) (fun x hx => hb _ (r.glt hx) (ok.2.2.2 x hx))⟩
  · have ok := st.ok i c hc
    have kk := key i c hc
    refine ⟨ok.1, ok.2.1, fun q => ?_, fun x hx q => ?_⟩
    · rcases hi _ q with q | q
      · exact ok.2.2.1 q
      · omega
    · rcases hi _ q with q | q
      · exact ok.2.2.2 x hx q
      · have := kk.2 x hx; omega
theorem cx_new {X : Nat → Prop} {w w' : World} {h : Nat → Option (List Int)} {A : Nat} {l : List Int} (hs : Cx X w (hx h)) (hn : ∀ i, Cx X w' (upd (hx h) i (A, l))) : h A = none := by
  cases hA : h A with
  | none => rfl
  | some l0 =>
    exfalso
    have h1 := (hs.get (hx_at hA)).1.lt
    have h2 : h w.heap.size = none := by
      cases e : h w.heap.size with
      | none => rfl
      | some l1 => exact absurd (hs.get (hx_at e)).1.lt (Nat.lt_irrefl _)
    obtain ⟨f, st, hf⟩ := hn w.heap.size
    have e1 := hf w.heap.size
    rw [upd_same] at e1
    have e2 := hf A
    rw [upd_other _ _ _ _ (by omega), hx_at hA] at e2
    cases q1 : f w.heap.size with
    | none => rw [q1] at e1; simp at e1
    | some c =>
      cases q2 : f A with
      | none => rw [q2] at e2; simp at e2
      | some d =>
        rw [q1] at e1
        rw [q2] at e2
        simp at e1 e2
        have ap := st.apart w.heap.size A c d (by omega) q1 q2
        exact ap.1 (by rw [← e1.1, ← e2.1])
/-- a bound on a map's entries -/
def NB : Nat := 100000
theorem own_tight {w : World} {mb n m : Nat} {D : DataW Unit} (h : w.ownsMap Tryz.prog 3 mE mb n D) (hm : Maps.size D ≤ m) : w.ownsMap Tryz.prog 3 mE mb m D := by
  obtain ⟨es, clock, hb, F, hs, rfl⟩ := h
  refine ⟨es, clock, hb, F, ?_, rfl⟩
  rw [Maps.size_eq, length_read] at hm
  exact hm
structure Wst where
  T : Nat
  M : Nat
  n : Nat
  f : Int → Option (Nat × Nat)
def Xw (Y : Nat → Prop) (B mb : Nat) : Nat → Prop := fun k => Y k ∨ k = B ∨ k = mb
/-- a watch at B, its map at mb, the clocks h, foreign blocks Y -/
structure WX (Y : Nat → Prop) (B : Nat) (w : World) (st : Wst) (h : Nat → Option (List Int)) (mb : Nat) (D : DataW Unit) : Prop where
  hp : w.heap[B]? = some (.cells #[.int .i64 (st.T : Int), .int .i64 (st.M : Int), .map (some mb)] 76 (0, 0))
  ow : w.ownsMap Tryz.prog 3 mE mb NB D
  mi : MI D st.f
  sz : Maps.size D = st.n
  ne : B ≠ mb
  yb : ¬ Y B
  ym : ¬ Y mb
  cx : Cx (Xw Y B mb) w (hx h)
  dom : ∀ g t b, st.f g = some (t, b) → ∃ l, h b = some l
  inj : ∀ g g' t t' b, st.f g = some (t, b) → st.f g' = some (t', b) → g = g'
  tid : ∀ g t b, st.f g = some (t, b) → t < 256
  bd : st.T ≤ 256 ∧ 1 ≤ st.M ∧ st.M ≤ 1048576 ∧ st.n ≤ 10000
def WW (Y : Nat → Prop) (B : Nat) (w : World) (st : Wst) (h : Nat → Option (List Int)) : Prop := ∃ mb D, WX Y B w st h mb D
theorem WX.lt {Y : Nat → Prop} {B : Nat} {w : World} {st : Wst} {h : Nat → Option (List Int)} {mb : Nat} {D : DataW Unit} (s : WX Y B w st h mb D) : B < w.heap.size := (Array.getElem?_eq_some_iff.1 s.hp).1
theorem WX.ylt {Y : Nat → Prop} {B : Nat} {w : World} {st : Wst} {h : Nat → Option (List Int)} {mb : Nat} {D : DataW Unit} (s : WX Y B w st h mb D) : ∀ k, Y k → k < w.heap.size := fun k hk => s.cx.base k (.inl hk)
theorem own_kp {X : Nat → Prop} {w w' : World} {mb n : Nat} {D : DataW Unit} (h : w.ownsMap Tryz.prog 3 mE mb n D) (k : Kp X w w') (hX : X mb) : w'.ownsMap Tryz.prog 3 mE mb n D := by
  obtain ⟨es, clock, hb, r⟩ := h
  exact ⟨es, clock, (k.block mb hX).trans hb, r⟩
/-- the clocks alone have changed -/
theorem WX.clk {Y : Nat → Prop} {B : Nat} {w w' : World} {st : Wst} {h h' : Nat → Option (List Int)} {mb : Nat} {D : DataW Unit} (s : WX Y B w st h mb D) (c : Cx (Xw Y B mb) w' (hx h')) (k : Kp (Xw Y B mb) w w') (hd : ∀ b l, h b = some l → ∃ l', h' b = some l') : WX Y B w' st h' mb D :=
  ⟨(k.block B (.inr (.inl rfl))).trans s.hp, own_kp s.ow k (.inr (.inr rfl)), s.mi, s.sz, s.ne, s.yb, s.ym, c, fun g t b e => by
    obtain ⟨l, q⟩ := s.dom g t b e
    exact hd b l q, s.inj, s.tid, s.bd⟩
theorem WX.below {Y : Nat → Prop} {B : Nat} {w w' : World} {st : Wst} {h : Nat → Option (List Int)} {mb : Nat} {D : DataW Unit} (s : WX Y B w st h mb D) (b : Below w.heap.size w w') : WX Y B w' st h mb D :=
  s.clk (s.cx.below b) (Kp.of b s.cx.base) fun _ l e => ⟨l, e⟩
theorem copy_wx {Y : Nat → Prop} {B : Nat} {w : World} {st : Wst} {h : Nat → Option (List Int)} {mb : Nat} {D : DataW Unit} (s : WX Y B w st h mb D) {b : Nat} {l : List Int} (e : h b = some l) :
    Calls Tryz.prog 20 #[.pointer (some ⟨b, 0, none⟩)] w fun r w' => ∃ A, r = .returned (.pointer (some ⟨A, 0, none⟩)) ∧ h A = none ∧ WX Y B w' st (upd h A l) mb D ∧ Kp (Xw Y B mb) w w' := by
  refine (cx_copy s.cx (hx_at e)).mono ?_
  rintro r w' ⟨A, rfl, hc, kp⟩
  have hA := cx_new s.cx hc
  exact ⟨A, rfl, hA, s.clk (by rw [← hx_upd]; exact hc A) kp fun b' l' e' => ⟨l', Ext.upd hA b' l' e'⟩, kp⟩
/-- what find tells -/
def fv : Option (Nat × Nat) → Value
  | none => mZ
  | some (t, b) => mV (t : Int) b
theorem loadVar_tm {w : World} {b : Nat} {c : Array Value} {t : TypeId} (h : w.heap[b]? = some (.cells c t (0, 0))) (hc : c.size = 2) : (loadVar 71 ⟨b, 0, none⟩).run Tryz.prog w = .ok (.agg c) w :=
  run_loadVar_row w b t _ _ _ _ h Tryz.underlying71 rfl (by rw [(zero_of_info info_tm).2, hc])
end Wa
end Go.Proofs.YtakbbhngcdccpaaGreat
