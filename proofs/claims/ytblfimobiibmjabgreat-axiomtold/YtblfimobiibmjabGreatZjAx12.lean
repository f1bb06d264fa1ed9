import Derived.Test.YtblfimobiibmjabGreatZjAx11
import Derived.Deep.RegionHeld3
import Derived.Deep.RegionWith
namespace Go.Proofs.YtblfimobiibmjabGreat
open Go.ChangeShapes Go.WideShapes Go.ChangeAt Go.RowKit
namespace Rlo
open Ba Lo
def Fv (nm : List Int) (Fs : Nat → Nat → Prop) : Nat → Nat → Prop := fun i x => i < 8 ∧ 0 ≤ nth nm i ∧ Fs (nth nm i).toNat x
theorem fv_at {nm : List Int} {Fs : Nat → Nat → Prop} {i : Nat} (h : i < 8) (h0 : 0 ≤ nth nm i) : Fv nm Fs i = Fs (nth nm i).toNat := by
 funext x
 simp [Fv, h, h0]
def Fb (nm : List Int) (Gs Fs : Nat → Nat → Prop) : Nat → Nat → Prop := fun j x => (∃ i, i < 8 ∧ 0 ≤ nth nm i ∧ (nth nm i).toNat = j ∧ Gs i x) ∨ ((∀ i, i < 8 → 0 ≤ nth nm i → (nth nm i).toNat ≠ j) ∧ Fs j x)
theorem NI.same {nm : List Int} {k i j : Nat} (h : NI nm k) (hi : i < 8) (hj : j < 8) (h0 : 0 ≤ nth nm i) (h1 : 0 ≤ nth nm j) (e : (nth nm i).toNat = (nth nm j).toNat) : i = j := h.inj i j hi hj h0 (by omega)
theorem fb_at {nm : List Int} {k i : Nat} {Gs Fs : Nat → Nat → Prop} (h : NI nm k) (hi : i < 8) (h0 : 0 ≤ nth nm i) : Fb nm Gs Fs (nth nm i).toNat = Gs i := by
 funext x
 apply propext
 constructor
 ·rintro (⟨j, hj, h1, e, g⟩ | ⟨n, _⟩)
  ·obtain rfl := h.same hj hi h1 h0 e
   exact g
  ·exact absurd rfl (n i hi h0)
 ·intro g
  exact .inl ⟨i, hi, h0, rfl, g⟩
theorem fb_no {nm : List Int} {j : Nat} {Gs Fs : Nat → Nat → Prop} (h : ∀ i, i < 8 → 0 ≤ nth nm i → (nth nm i).toNat ≠ j) : Fb nm Gs Fs j = Fs j := by
 funext x
 apply propext
 constructor
 ·rintro (⟨i, hi, h1, e, g⟩ | ⟨_, g⟩)
  ·exact absurd e (h i hi h1)
  ·exact g
 ·intro g
  exact .inr ⟨h, g⟩
def fi (nm : List Int) (j : Nat) : Option Nat := (List.range 8).find? fun i => nth nm i == (j : Int)
theorem fi_at {nm : List Int} {k i : Nat} (h : NI nm k) (hi : i < 8) (h0 : 0 ≤ nth nm i) : fi nm (nth nm i).toNat = some i := by
 have e : (((nth nm i).toNat : Nat) : Int) = nth nm i := by omega
 unfold fi
 rw [e]
 cases hf : (List.range 8).find? fun j => nth nm j == nth nm i with
 | none =>
   rw [List.find?_eq_none] at hf
   have := hf i (List.mem_range.2 hi)
   simp at this
 | some j =>
   have h1 := List.find?_some hf
   have h2 := List.mem_of_find?_eq_some hf
   rw [List.mem_range] at h2
   simp at h1
   rw [h.inj i j hi h2 h0 h1.symm]
theorem fi_no {nm : List Int} {j : Nat} (h : ∀ i, i < 8 → 0 ≤ nth nm i → (nth nm i).toNat ≠ j) : fi nm j = none := by
 unfold fi
 rw [List.find?_eq_none]
 intro i hi e
 rw [List.mem_range] at hi
 simp at e
 exact h i hi (by omega) (by omega)
def cb (nm : List Int) (sts cs : List (Option St)) : List (Option St) := (List.range cs.length).map fun j => match fi nm j with
 | some i => (sts[i]?).join
 | none => (cs[j]?).join
theorem cb_len (nm : List Int) (sts cs : List (Option St)) : (cb nm sts cs).length = cs.length := by simp [cb]
theorem cb_at {nm : List Int} {sts cs : List (Option St)} {k i : Nat} (h : NI nm k) (hi : i < 8) (h0 : 0 ≤ nth nm i) (hl : (nth nm i).toNat < cs.length) : (cb nm sts cs)[(nth nm i).toNat]? = some (sts[i]?).join := by
 simp [cb, hl, fi_at h hi h0]
theorem cb_no {nm : List Int} {sts cs : List (Option St)} {j : Nat} (h : ∀ i, i < 8 → 0 ≤ nth nm i → (nth nm i).toNat ≠ j) (hl : j < cs.length) : (cb nm sts cs)[j]? = some (cs[j]?).join := by
 simp [cb, hl, fi_no h]
theorem join_some {α : Type} {o : Option α} {x : Option (Option α)} (h : x = some o) : x.join = o := by rw [h]; cases o <;> rfl
section
variable {w w' u : World} {col col' : Nat → Nat} {L N C B : Nat} {FB : Nat → Prop} {q : Hd} {pa : Option Addr} {pc : Nat} {oa : Option Addr} {oc : Nat} {bs : List (Option Nat)} {Fs : Nat → Nat → Prop} {cs : List (Option St)} {ta : Option Addr} {tc : Nat} {s : Lm} {K : Nat → Prop}
theorem RX.nl (h : RX w col L N C B FB q pa pc oa oc bs Fs cs ta tc s) {i : Nat} (hi : i < 8) (h0 : 0 ≤ nth s.nm i) : (nth s.nm i).toNat < bs.length := by
 have := h.ni.lt i hi
 omega
theorem RX.view {ob : Option Addr} {d : Nat} (h : RX w col L N C B FB q pa pc oa oc bs Fs cs ta tc s) (hb : Below w.heap.size w u) (ho : u.ownsRow w.heap.size 116 1 (.slice ob (vw s.nm bs).length d) (vw s.nm bs).length ((vw s.nm bs).map Pe.pt)) :
 Fk.Qs Rp.Rr u ob (vw s.nm bs) (Fv s.nm Fs) s.sts := by
 have l8 : (vw s.nm bs).length = 8 := (vw_len _ _).trans h.ni.len
 have hq := h.qs.below Fk.frR hb
 refine ⟨(own_row ho).1, by rw [h.vs, vw_len, vw_len], fun i B1 hi => ?_, fun i hi => ?_, fun i j hij x h1 h2 => ?_, fun a e i h1 => ?_, fun i x hx => ?_⟩
 ·have i8 : i < 8 := by have := (List.getElem?_eq_some_iff.1 hi).1; omega
  rw [vw_at (by rw [h.ni.len]; exact i8)] at hi
  by_cases h0 : nth s.nm i < 0
  ·rw [if_pos h0] at hi
   cases hi
  ·rw [if_neg h0] at hi
   have hg : bs[(nth s.nm i).toNat]? = some (some B1) := by
    have := List.getElem?_eq_getElem (h.nl i8 (by omega))
    rw [this] at hi ⊢
    rw [join_some rfl] at hi
    exact hi
   obtain ⟨st, e1, e2⟩ := hq.one _ B1 hg
   refine ⟨st, ?_, by rw [fv_at i8 (by omega)]; exact e2⟩
   rw [h.vs, vw_at (by rw [h.ni.len]; exact i8), if_neg h0, join_some e1]
 ·have i8 : i < 8 := by have := (List.getElem?_eq_some_iff.1 hi).1; omega
  rw [vw_at (by rw [h.ni.len]; exact i8)] at hi
  rw [h.vs, vw_at (by rw [h.ni.len]; exact i8)]
  by_cases h0 : nth s.nm i < 0
  ·rw [if_pos h0]
  ·rw [if_neg h0] at hi ⊢
   have hg : bs[(nth s.nm i).toNat]? = some none := by
    have := List.getElem?_eq_getElem (h.nl i8 (by omega))
    rw [this] at hi ⊢
    rw [join_some rfl] at hi
    exact hi
   rw [join_some (hq.non _ hg)]
 ·obtain ⟨i8, i0, f1⟩ := h1
  obtain ⟨j8, j0, f2⟩ := h2
  exact h.qs.ap _ _ (fun e => hij (h.ni.same i8 j8 i0 j0 e)) x f1 f2
 ·obtain ⟨i8, i0, f1⟩ := h1
  have := h.qs.bd _ _ f1
  have := (Cr.own_blk ho a.block ((own_row ho).2 a e)).1
  omega
 ·obtain ⟨i8, i0, f1⟩ := hx
  exact Nat.lt_of_lt_of_le (h.qs.bd _ _ f1) hb.size
theorem RX.back3 {ob : Option Addr} {Gs : Nat → Nat → Prop} {sts : List (Option St)} (h : RX w col L N C B FB q pa pc oa oc bs Fs cs ta tc s) (hb : Below w.heap.size w u) (nw : Fk.NwA Gs (Fv s.nm Fs) u) (r : Fk.Qs Rp.Rr w' ob (vw s.nm bs) Gs sts) (kf : KF (Fk.All (Fv s.nm Fs)) u w') :
 ∃ col', RX w' col' L N C B FB q pa pc oa oc bs (Fb s.nm Gs Fs) (cb s.nm sts cs) ta tc { s with sts := sts } ∧ Tq col col' w w' ∧ ∀ x, w.heap.size ≤ x → x < u.heap.size → col' x = 7 ∧ w'.heap[x]? = u.heap[x]? := by
 have sz : w.heap.size ≤ u.heap.size := hb.size
 have l8 : (vw s.nm bs).length = 8 := (vw_len _ _).trans h.ni.len
 have s8 : sts.length = 8 := r.len.symm.trans l8
 have cl : cs.length = bs.length := h.qs.len.symm
 have fvw : ∀ {x}, Fk.All (Fv s.nm Fs) x → ∃ j, Fs j x ∧ ∃ i, i < 8 ∧ 0 ≤ nth s.nm i ∧ (nth s.nm i).toNat = j := fun ⟨i, i8, i0, f⟩ => ⟨_, f, i, i8, i0, rfl⟩
 have fold : ∀ {i x}, Gs i x → x < u.heap.size → Fk.All (Fv s.nm Fs) x := fun {i x} g hx => by
  rcases nw i x g with z | z
  ·exact z
  ·omega
 obtain ⟨col', o, n, n7⟩ := ext_ex w col (Fk.All (Fb s.nm Gs Fs)) 4
 have c : Ch (fun c => c = 4) col col' w w' := ⟨kf.os.trans hb.os, kf.tape.trans hb.tape, kf.output.trans hb.output, Nat.le_trans sz kf.size, fun x hx hc => (kf.block x (by omega) (fun e => by
  obtain ⟨j, f, _⟩ := fvw e
  exact hc (h.c4 j x f))).trans (hb.block x hx), o⟩
 have qs : Fk.Qs Rp.Rr w' oa bs (Fb s.nm Gs Fs) (cb s.nm sts cs) := by
  refine ⟨(own_row (h.keepRw c (by simp))).1, by rw [cb_len]; exact h.qs.len, fun j B1 hj => ?_, fun j hj => ?_, fun i j hij x h1 h2 => ?_, fun a e i h1 => ?_, fun j x hx => ?_⟩
  ·have jl := (List.getElem?_eq_some_iff.1 hj).1
   by_cases hn : ∃ i, i < 8 ∧ 0 ≤ nth s.nm i ∧ (nth s.nm i).toNat = j
   ·obtain ⟨i, i8, i0, rfl⟩ := hn
    have hv : (vw s.nm bs)[i]? = some (some B1) := by rw [vw_at (by rw [h.ni.len]; exact i8), if_neg (by omega), join_some hj]
    obtain ⟨st, e1, e2⟩ := r.one i B1 hv
    exact ⟨st, by rw [cb_at h.ni i8 i0 (by omega), join_some e1], by rw [fb_at h.ni i8 i0]; exact e2⟩
   ·have hn' : ∀ i, i < 8 → 0 ≤ nth s.nm i → (nth s.nm i).toNat ≠ j := fun i i8 i0 e => hn ⟨i, i8, i0, e⟩
    obtain ⟨st, e1, e2⟩ := h.qs.one j B1 hj
    refine ⟨st, by rw [cb_no hn' (by omega), join_some e1], ?_⟩
    rw [fb_no hn']
    refine Fk.frR.sm e2 fun x hx => ?_
    refine (kf.block x (Nat.lt_of_lt_of_le (h.qs.bd j x hx) sz) (fun e => ?_)).trans (hb.block x (h.qs.bd j x hx))
    obtain ⟨k, f, i, i8, i0, e⟩ := fvw e
    exact h.qs.ap k j (fun e2 => hn' i i8 i0 (e.trans e2)) x f hx
  ·have jl := (List.getElem?_eq_some_iff.1 hj).1
   by_cases hn : ∃ i, i < 8 ∧ 0 ≤ nth s.nm i ∧ (nth s.nm i).toNat = j
   ·obtain ⟨i, i8, i0, rfl⟩ := hn
    have hv : (vw s.nm bs)[i]? = some none := by rw [vw_at (by rw [h.ni.len]; exact i8), if_neg (by omega), join_some hj]
    rw [cb_at h.ni i8 i0 (by omega), join_some (r.non i hv)]
   ·have hn' : ∀ i, i < 8 → 0 ≤ nth s.nm i → (nth s.nm i).toNat ≠ j := fun i i8 i0 e => hn ⟨i, i8, i0, e⟩
    rw [cb_no hn' (by omega), join_some (h.qs.non j hj)]
  ·rcases h1 with ⟨a, a8, a0, rfl, g1⟩ | ⟨n1, f1⟩
   ·rcases h2 with ⟨b, b8, b0, rfl, g2⟩ | ⟨n2, f2⟩
    ·exact r.ap a b (fun e => hij (by rw [e])) x g1 g2
    ·obtain ⟨k, f, i, i8, i0, e⟩ := fvw (fold g1 (Nat.lt_of_lt_of_le (h.qs.bd j x f2) sz))
     exact h.qs.ap k j (fun e2 => n2 i i8 i0 (e.trans e2)) x f f2
   ·rcases h2 with ⟨b, b8, b0, rfl, g2⟩ | ⟨n2, f2⟩
    ·obtain ⟨k, f, j, j8, j0, e⟩ := fvw (fold g2 (Nat.lt_of_lt_of_le (h.qs.bd i x f1) sz))
     exact h.qs.ap k i (fun e2 => n1 j j8 j0 (e.trans e2)) x f f1
    ·exact h.qs.ap i j hij x f1 f2
  ·have al := h.blk ((own_row h.rw).2 a e)
   rcases h1 with ⟨b, b8, b0, rfl, g2⟩ | ⟨n2, f2⟩
   ·obtain ⟨k, f, _⟩ := fvw (fold g2 (Nat.lt_of_lt_of_le al sz))
    exact h.qs.nr a e k f
   ·exact h.qs.nr a e i f2
  ·rcases hx with ⟨b, b8, b0, rfl, g2⟩ | ⟨n2, f2⟩
   ·exact r.bd b x g2
   ·exact Nat.lt_of_lt_of_le (h.qs.bd j x f2) c.size
 have nal : ∀ x, w.heap.size ≤ x → x < u.heap.size → ¬ Fk.All (Fb s.nm Gs Fs) x := by
  rintro x h1 h2 ⟨j, ⟨b, b8, b0, rfl, g2⟩ | ⟨n2, f2⟩⟩
  ·obtain ⟨k, f, _⟩ := fvw (fold g2 h2)
   have := h.qs.bd k x f
   omega
  ·have := h.qs.bd j x f2
   omega
 refine ⟨col', ⟨h.keepHp c (by simp), h.keepPs c (by simp), h.keepCu c (by simp) (by simp), h.nc, h.keepCr c (by simp), h.keepRw c (by simp), qs, h.ni, h.md, ?_, h.keepTr c (by simp), h.k0 c, h.k1 c, h.k2 c, h.k3 c, fun i x hx => ?_, h.k5 c, h.k6 c⟩, tq_of c (fun _ (e : _ = _) => by omega), fun x h1 h2 => ⟨n7 x h1 (nal x h1 h2), kf.block x h2 (fun e => ?_)⟩⟩
 ·show sts = vw s.nm (cb s.nm sts cs)
  apply List.ext_getElem?
  intro i
  by_cases i8 : i < 8
  ·rw [vw_at (by rw [h.ni.len]; exact i8)]
   by_cases h0 : nth s.nm i < 0
   ·rw [if_pos h0]
    exact r.non i (by rw [vw_at (by rw [h.ni.len]; exact i8), if_pos h0])
   ·rw [if_neg h0, cb_at h.ni i8 (by omega) (by have := h.nl i8 (show 0 ≤ nth s.nm i by omega); omega), List.getElem?_eq_getElem (by omega), join_some rfl, join_some rfl]
  ·rw [List.getElem?_eq_none (by omega), List.getElem?_eq_none (by rw [vw_len, h.ni.len]; omega)]
 ·rcases Nat.lt_or_ge x w.heap.size with e | e
  ·rcases hx with ⟨b, b8, b0, rfl, g2⟩ | ⟨n2, f2⟩
   ·obtain ⟨k, f, _⟩ := fvw (fold g2 (Nat.lt_of_lt_of_le e sz))
    exact h.k4 c k x f
   ·exact h.k4 c i x f2
  ·exact n x e ⟨i, hx⟩
 ·obtain ⟨k, f, _⟩ := fvw e
  have := h.qs.bd k x f
  omega
theorem RX.back {ob : Option Addr} {sts : List (Option St)} (h : RX w col L N C B FB q pa pc oa oc bs Fs cs ta tc s) (hb : Below w.heap.size w u) (r : Fk.Rz Rp.Rr u w' ob (vw s.nm bs) (Fv s.nm Fs) sts) :
 ∃ Fs' cs' col', RX w' col' L N C B FB q pa pc oa oc bs Fs' cs' ta tc { s with sts := sts } ∧ Tq col col' w w' ∧ ∀ x, w.heap.size ≤ x → x < u.heap.size → col' x = 7 ∧ w'.heap[x]? = u.heap[x]? := by
 obtain ⟨Gs, nw, r, kf⟩ := r
 obtain ⟨col', x⟩ := h.back3 hb nw r kf
 exact ⟨_, _, col', x⟩
theorem RX.all {cs' : List (Option St)} (h : RX w col L N C B FB q pa pc oa oc bs Fs cs ta tc s) (p : Fk.Rz Rp.Rr w w' oa bs Fs cs') : ∃ Fs' col', RX w' col' L N C B FB q pa pc oa oc bs Fs' cs' ta tc { s with sts := vw s.nm cs' } ∧ Tq col col' w w' := by
 obtain ⟨Fs', nw, r, kf⟩ := p
 obtain ⟨col', o, n, _⟩ := ext_ex w col (Fk.All Fs') 4
 have c : Ch (fun c => c = 4) col col' w w' := ⟨kf.os, kf.tape, kf.output, kf.size, fun x hx hc => kf.block x hx (fun e => by
  obtain ⟨i, e⟩ := e
  exact hc (h.c4 i x e)), o⟩
 refine ⟨Fs', col', ⟨h.keepHp c (by simp), h.keepPs c (by simp), h.keepCu c (by simp) (by simp), h.nc, h.keepCr c (by simp), h.keepRw c (by simp), r, h.ni, h.md, rfl, h.keepTr c (by simp), h.k0 c, h.k1 c, h.k2 c, h.k3 c, fun i x hx => ?_, h.k5 c, h.k6 c⟩, tq_of c (fun _ (e : _ = _) => by omega)⟩
 rcases Nat.lt_or_ge x w.heap.size with e | e
 ·rcases nw i x hx with z | z
  ·obtain ⟨j, z⟩ := z
   exact h.k4 c j x z
  ·omega
 ·exact n x e ⟨i, hx⟩
theorem vw_leave (g : Int) (nm : List Int) (cs : List (Option St)) : vw nm (Fk.leaveS g cs) = Fk.leaveS g (vw nm cs) := by
 simp only [vw, Fk.leaveS, List.map_map]
 apply List.map_congr_left
 intro n _
 simp only [Function.comp]
 split
 ·rfl
 ·rw [List.getElem?_map]
  cases cs[n.toNat]? with
  | none => rfl
  | some o => cases o <;> rfl
theorem RX.recol (h : RX w col L N C B FB q pa pc oa oc bs Fs cs ta tc s) : ∃ col', RX w col' L N C B FB q pa pc oa oc bs Fs cs ta tc s ∧ Tq col col' w w ∧ ∀ x, col x = 4 → ¬ Fk.All Fs x → col' x = 7 := by
 classical
 refine ⟨fun x => if col x = 4 ∧ ¬ Fk.All Fs x then 7 else col x, ⟨h.hp, h.ps, h.cu, h.nc, h.cr, h.rw, h.qs, h.ni, h.md, h.vs, h.tr, ?_, ?_, fun x hx => ?_, fun g e => ?_, fun i x hx => ?_, fun g e => ?_, fun x hx => ?_⟩, ⟨rfl, rfl, rfl, Nat.le_refl _, fun _ _ _ => rfl, fun x hx hc => if_neg (by omega)⟩, fun x h1 h2 => if_pos ⟨h1, h2⟩⟩
 ·simp [h.c0]
 ·simp [h.c1]
 ·simp [h.c2 x hx]
 ·simp [h.c3 g e]
 ·have : Fk.All Fs x := ⟨i, hx⟩
  simp [this, h.c4 i x hx]
 ·simp [h.c5 g e]
 ·simp [h.c6 x hx]
theorem RX.told {w2 : World} {ta' : Option Addr} {n' tc' : Nat} {e : Ev} (h : RX w col L N C B FB q pa pc oa oc bs Fs cs ta tc s) (b1 : Below w.heap.size w u) (hn : n' = s.tr.length + 1)
 (ho : w2.ownsRow 0 29 8 (.slice ta' n' tc') n' (ec (s.tr ++ [e]))) (hg : u.grownBy w2 (Value.slice ta s.tr.length tc).ownBlock)
 (hat : (Value.slice ta' n' tc').ownBlock = (Value.slice ta s.tr.length tc).ownBlock ∨ (Value.slice ta' n' tc').ownBlock = some u.heap.size) :
 ∃ col', RX (w2.setCell ⟨L, 16, none⟩ (.slice ta' n' tc')) col' L N C B FB q pa pc oa oc bs Fs cs ta' tc' (tellS s e) ∧ Tq col col' w (w2.setCell ⟨L, 16, none⟩ (.slice ta' n' tc')) := by
 obtain ⟨col', o, nn, _⟩ := ext_ex w col (fun x => (Value.slice ta' n' tc').ownBlock = some x) 5
 have sz : (w2.setCell ⟨L, 16, none⟩ (.slice ta' n' tc')).heap.size = w2.heap.size := by simp [World.setCell]
 have c : Ch (fun c => c = 0 ∨ c = 5) col col' w (w2.setCell ⟨L, 16, none⟩ (.slice ta' n' tc')) := by
  refine ⟨hg.os.trans b1.os, hg.tape.trans b1.tape, hg.output.trans b1.output, by rw [sz]; exact Nat.le_trans b1.size hg.size, fun x hx hc => ?_, o⟩
  refine ((KB.refl L w2).setCell 16 _).block x (Nat.lt_of_lt_of_le hx (Nat.le_trans b1.size hg.size)) (fun e => hc (by rw [e, h.c0]; exact .inl rfl)) |>.trans ?_
  exact (hg.block x (Nat.lt_of_lt_of_le hx b1.size) (fun e => hc (.inr (h.c5 x e.symm)))).trans (b1.block x hx)
 have hL : w2.heap[L]? = some (.cells (rcs q pa s.ps.length pc C B oa bs.length oc s.nm ta s.tr.length tc s.pk) 75 (0, 0)) :=
  (hg.block L (Nat.lt_of_lt_of_le h.lt b1.size) (fun e => by have := h.c5 L e.symm; rw [h.c0] at this; omega)).trans ((b1.block L h.lt).trans h.hp)
 have hl : (tellS s e).tr.length = n' := by rw [hn]; simp [tellS]
 have own' : (w2.setCell ⟨L, 16, none⟩ (.slice ta' n' tc')).ownsRow 0 29 8 (.slice ta' (tellS s e).tr.length tc') (tellS s e).tr.length (ec (tellS s e).tr) := by
  rw [hl]
  refine Cr.own_keep ho fun g e => ((KB.refl L w2).setCell 16 _).block g (by obtain ⟨_, cur, hc⟩ := Cr.own_blk ho g e; exact heap_lt hc) (fun e2 => ?_)
  obtain ⟨_, cur, hc⟩ := Cr.own_blk ho g e
  rw [e2, hL] at hc
  cases hc
 refine ⟨col', ⟨?_, h.keepPs c (by simp), h.keepCu c (by simp) (by simp), h.nc, h.keepCr c (by simp), h.keepRw c (by simp), h.keepQs c (by simp) (by simp), h.ni, h.md, h.vs, own', h.k0 c, h.k1 c, h.k2 c, h.k3 c, h.k4 c, fun g e => ?_, h.k6 c⟩, tq_of c (fun c e => by rcases e with e | e <;> omega)⟩
 ·rw [Ba.heap_setCell_same hL]
  rw [hl]
  rfl
 ·rw [hl] at e
  rcases Nat.lt_or_ge g w.heap.size with q | q
  ·rcases hat with z | z
   ·rw [z] at e
    exact h.k5 c g e
   ·rw [z] at e
    cases e
    have := b1.size
    omega
  ·exact nn g q e
end
end Rlo
end Go.Proofs.YtblfimobiibmjabGreat
namespace Go.Proofs.YtblfimobiibmjabGreat
open Go.ChangeShapes Go.WideShapes Go.ChangeAt Go.RowKit
namespace Rlo
open Ba Lo
theorem info_rp : (Tryz.prog.info? 116).map (fun i => (i.zero, i.size, i.bytes)) = some (some (.pointer none), 1, 8) := by kernel_rfl
set_option maxRecDepth 100000 in
set_option maxHeartbeats 1600000 in
theorem note_any (L N : Nat) (col : Nat → Nat) (s : Lm) (e : Ev) (w : World) (h : RW w col L N s) (ht : s.tr.length ≤ 1000000) :
 Calls Tryz.prog 38 #[.pointer (some ⟨L, 0, none⟩), En.evv e] w fun r w' => r = .returned (.tuple #[]) ∧ ∃ col', RW w' col' L N (tellS s e) ∧ Tq col col' w w' := by
 obtain ⟨C, B, FB, q, pa, pc, oa, oc, bs, Fs, cs, ta, tc, h⟩ := h
 unfold En.evv En.evc
 obtain ⟨i0, hi, hz0, hz1, hz2⟩ : ∃ i0, Tryz.prog.info? 29 = some i0 ∧ i0.zero = some (.agg #[.int .i64 0, .int .i64 0, .int .i64 0, .int .i64 0, .int .i64 0, .int .i64 0, .bool false, .bool false]) ∧ i0.size = 8 ∧ i0.bytes = 56 := by
  cases hi : Tryz.prog.info? 29 with
  | none => have := info_ev; rw [hi] at this; cases this
  | some i0 =>
    have hx := info_ev
    rw [hi] at hx
    simp at hx
    exact ⟨i0, rfl, hx⟩
 have INF := hide (And.intro hi (And.intro hz0 (And.intro hz1 hz2)))
 have H := hide h
 have y0 : w.cell? ⟨L, 16, none⟩ = some (.slice ta s.tr.length tc) := cell_of h.hp 16
 have f0 : w.frozen? ⟨L, 16, none⟩ = false := frozen_of h.hp 16
 have hL := h.lt
 clear h hi hz0 hz1 hz2
 have BD := hide (btr (btr (below_alloc w (.cells #[.int .i64 e.k, .int .i64 e.g, .int .i64 e.c, .int .i64 e.a, .int .i64 e.v, .int .i64 e.m, .bool e.s, .bool e.o] 29)) (below_alloc _ (.cells #[.int .i64 e.k, .int .i64 e.g, .int .i64 e.c, .int .i64 e.a, .int .i64 e.v, .int .i64 e.m, .bool e.s, .bool e.o] 29))) (bdrew1 _))
 have ow1 : ((w.alloc (.cells #[.int .i64 e.k, .int .i64 e.g, .int .i64 e.c, .int .i64 e.a, .int .i64 e.v, .int .i64 e.m, .bool e.s, .bool e.o] 29)).alloc (.cells #[.int .i64 e.k, .int .i64 e.g, .int .i64 e.c, .int .i64 e.a, .int .i64 e.v, .int .i64 e.m, .bool e.s, .bool e.o] 29)).drew.ownsRow 0 29 8 (.slice ta s.tr.length tc) s.tr.length (ec s.tr) := Cr.own_keep H.out.tr fun g e => by
  obtain ⟨_, cur, hc⟩ := Cr.own_blk H.out.tr g e
  exact BD.out.block g (heap_lt hc)
 obtain ⟨v', w6, hr, hown, hgrow, _, hat⟩ := run_append_own_at (P := Tryz.prog) (((w.alloc (.cells #[.int .i64 e.k, .int .i64 e.g, .int .i64 e.c, .int .i64 e.a, .int .i64 e.v, .int .i64 e.m, .bool e.s, .bool e.o] 29)).alloc (.cells #[.int .i64 e.k, .int .i64 e.g, .int .i64 e.c, .int .i64 e.a, .int .i64 e.v, .int .i64 e.m, .bool e.s, .bool e.o] 29)).drew) 0 22 22 29 i0 _ 8 56 Tryz.underlying22 INF.out.1 INF.out.2.1 INF.out.2.2.1 INF.out.2.2.2 rfl (by decide) _ _ _ ow1 ⟨w.heap.size + 1, 0, none⟩ 1 1 (ec [e]) rfl (src8 w e _) (ec_one _) (by unfold maxLen; omega) (by omega) (Nat.zero_le _)
 rw [← ec_app] at hown
 obtain ⟨ta', tc', rfl⟩ := own_sl hown
 have hs2 : ((w.alloc (.cells #[.int .i64 e.k, .int .i64 e.g, .int .i64 e.c, .int .i64 e.a, .int .i64 e.v, .int .i64 e.m, .bool e.s, .bool e.o] 29)).alloc (.cells #[.int .i64 e.k, .int .i64 e.g, .int .i64 e.c, .int .i64 e.a, .int .i64 e.v, .int .i64 e.m, .bool e.s, .bool e.o] 29)).drew.heap.size = w.heap.size + 1 + 1 := by rw [show ((w.alloc (.cells #[.int .i64 e.k, .int .i64 e.g, .int .i64 e.c, .int .i64 e.a, .int .i64 e.v, .int .i64 e.m, .bool e.s, .bool e.o] 29)).alloc (.cells #[.int .i64 e.k, .int .i64 e.g, .int .i64 e.c, .int .i64 e.a, .int .i64 e.v, .int .i64 e.m, .bool e.s, .bool e.o] 29)).drew.heap.size = ((w.alloc (.cells #[.int .i64 e.k, .int .i64 e.g, .int .i64 e.c, .int .i64 e.a, .int .i64 e.v, .int .i64 e.m, .bool e.s, .bool e.o] 29)).alloc (.cells #[.int .i64 e.k, .int .i64 e.g, .int .i64 e.c, .int .i64 e.a, .int .i64 e.v, .int .i64 e.m, .bool e.s, .bool e.o] 29)).heap.size from rfl, World.size_alloc, World.size_alloc]
 obtain ⟨col', hx, htr⟩ := H.out.told BD.out rfl hown hgrow hat
 have G6 : w6.heap[L]? = some (.cells (rcs q pa s.ps.length pc C B oa bs.length oc s.nm ta s.tr.length tc s.pk) 75 (0, 0)) := by
  refine (hgrow.block L (Nat.lt_of_lt_of_le hL BD.out.size) (fun e => ?_)).trans ((BD.out.block L hL).trans H.out.hp)
  have := H.out.c5 L e.symm
  rw [H.out.c0] at this
  omega
 have y6 : w6.cell? ⟨L, 16, none⟩ = some (.slice ta s.tr.length tc) := cell_of G6 16
 have f6 : w6.frozen? ⟨L, 16, none⟩ = false := frozen_of G6 16
 have HX := hide hx
 have HT := hide htr
 have HR := hide hr
 clear hown hgrow hat hr hx htr G6 ow1 BD
 go_enter Tryz.func38, Tryz.ntmps38
 go_wp2_with fail
 go_region_law (refine Rp.step_append_run _ (by rfl) _ _ _ _ (by rfl) _ _ (by rfl) (by rfl) _ _ HR.out ?_)
 all_goals
  go_wp2_with fail
  go_end0
  exact ⟨rfl, col', HX.out.lw, HT.out⟩
theorem RW.below {w w' : World} {col : Nat → Nat} {L N : Nat} {s : Lm} (h : RW w col L N s) (hb : Below w.heap.size w w') : ∃ col', RW w' col' L N s ∧ Tq col col' w w' ∧ ∀ x, w.heap.size ≤ x → col' x = 7 := by
 obtain ⟨C, B, FB, q, pa, pc, oa, oc, bs, Fs, cs, ta, tc, h⟩ := h
 obtain ⟨col', hx, ht, hn⟩ := h.below hb
 exact ⟨col', hx.lw, ht, hn⟩
theorem Tq.drew {col col' : Nat → Nat} {w w' : World} (h : Tq col col' w w') : Tq col col' w w'.drew := h.trans (tq_of (ch_below (fun _ => False) (bdrew1 w') (fun _ _ => rfl)) (fun _ e => e.elim))
theorem RW.lt {w : World} {col : Nat → Nat} {L N : Nat} {s : Lm} (h : RW w col L N s) : L < w.heap.size := by
 obtain ⟨C, B, FB, q, pa, pc, oa, oc, bs, Fs, cs, ta, tc, h⟩ := h
 exact h.lt
theorem bare_r (k g : Int) (w : World) : Calls Tryz.prog 39 #[.int .i64 k, .int .i64 g] w fun r w' => r = .returned (En.evv (bareE k g)) ∧ Below w.heap.size w w' := by
 unfold En.evv En.evc bareE
 go_enter Tryz.func39, Tryz.ntmps39
 go_wp2_with fail
 exact bodyPost_ret (En.results_row1 Tryz.results39 _ _ _ _ rfl (En.loadVar_ev (heap_new _ _) rfl)) rfl ⟨rfl, below_alloc _ _⟩
set_option maxRecDepth 100000 in
set_option maxHeartbeats 1600000 in
theorem panics_any (L N : Nat) (col : Nat → Nat) (s : Lm) (g : Int) (w : World) (h : RW w col L N s) (ht : s.tr.length ≤ 1000000) :
 Calls Tryz.prog 65 #[.pointer (some ⟨L, 0, none⟩), .int .i64 g] w fun r w' => r = .returned (.tuple #[]) ∧ ∃ col', RW w' col' L N (panicS s g) ∧ Tq col col' w w' := by
 have H := hide h
 clear h
 go_enter Tryz.func65, Tryz.ntmps65
 go_wp2_with fail
 refine (bare_r 12 g _).mono ?_
 rintro r w1 ⟨rfl, b1⟩
 obtain ⟨col1, h1, t1, -⟩ := H.out.below b1
 have T1 := hide t1
 have NO := hide (note_any L N col1 s (bareE 12 g) w1 h1 ht)
 unfold En.evv En.evc bareE at NO
 unfold En.evv En.evc bareE
 clear b1 h1 t1
 go_wp2_with fail
 refine NO.out.mono ?_
 rintro r w2 ⟨rfl, col2, h2, t2⟩
 obtain ⟨C, B, FB, q, pa, pc, oa, oc, bs, Fs, cs, ta, tc, h2⟩ := h2
 have y17 := cell_of h2.hp 17
 have f17 := frozen_of h2.hp 17
 simp [rcs] at y17
 have P := hide h2.panic
 have T2 := hide (T1.out.trans t2)
 clear h2 t2 NO
 go_wp2_with fail
 go_end0
 exact ⟨rfl, col2, P.out.1.lw, T2.out.trans P.out.2⟩
theorem RX.num {w : World} {col : Nat → Nat} {L N C B : Nat} {FB : Nat → Prop} {q : Hd} {pa : Option Addr} {pc : Nat} {oa : Option Addr} {oc : Nat} {bs : List (Option Nat)} {Fs : Nat → Nat → Prop} {cs : List (Option St)} {ta : Option Addr} {tc : Nat} {s : Lm} (h : RX w col L N C B FB q pa pc oa oc bs Fs cs ta tc s) {k : Nat} (hk : k < 8) : w.cell? ⟨L, 8 + k, none⟩ = some (.int .i64 (nth s.nm k)) := by
 rw [cell_of h.hp]
 rcases (show k = 0 ∨ k = 1 ∨ k = 2 ∨ k = 3 ∨ k = 4 ∨ k = 5 ∨ k = 6 ∨ k = 7 by omega) with rfl | rfl | rfl | rfl | rfl | rfl | rfl | rfl <;> rfl
theorem vw_take {α : Type} {nm : List Int} {l : List (Option α)} {k : Nat} (h : k < nm.length) : (vw nm l).take (k + 1) = (vw nm l).take k ++ [if nth nm k < 0 then none else (l[(nth nm k).toNat]?).join] := by
 rw [List.take_add_one, vw_at h]
 rfl
theorem own_sl1 {w : World} {base : Nat} {e : TypeId} {v : Value} {n : Nat} {xs : List Value} (h : w.ownsRow base e 1 v n xs) : ∃ oa c, v = .slice oa n c := by
 rcases h.2 with ⟨rfl, rfl⟩ | ⟨b, cap, cur, rfl, _⟩
 ·exact ⟨none, 0, rfl⟩
 ·exact ⟨_, _, rfl⟩
theorem pt_one (l : List (Option Nat)) : ∀ u ∈ l.map Pe.pt, u.oneCell' = true := by
 intro u hu
 rw [List.mem_map] at hu
 obtain ⟨o, _, rfl⟩ := hu
 rfl
set_option maxRecDepth 100000 in
set_option maxHeartbeats 1600000 in
theorem pipes_r {L N C B : Nat} {col : Nat → Nat} {FB : Nat → Prop} {q : Hd} {pa : Option Addr} {pc : Nat} {oa : Option Addr} {oc : Nat} {bs : List (Option Nat)} {Fs : Nat → Nat → Prop} {cs : List (Option St)} {ta : Option Addr} {tc : Nat} {s : Lm} (w : World) (h : RX w col L N C B FB q pa pc oa oc bs Fs cs ta tc s) :
 Calls Tryz.prog 60 #[.pointer (some ⟨L, 0, none⟩)] w fun r w' => ∃ ob d, r = .returned (.slice ob (vw s.nm bs).length d) ∧ w'.ownsRow w.heap.size 116 1 (.slice ob (vw s.nm bs).length d) (vw s.nm bs).length ((vw s.nm bs).map Pe.pt) ∧ Below w.heap.size w w' := by
 obtain ⟨i0, hi, hz0, hz1, hz2⟩ : ∃ i0, Tryz.prog.info? 116 = some i0 ∧ i0.zero = some (.pointer none) ∧ i0.size = 1 ∧ i0.bytes = 8 := by
  cases hi : Tryz.prog.info? 116 with
  | none => have := info_rp; rw [hi] at this; cases this
  | some i0 =>
    have hx := info_rp
    rw [hi] at hx
    simp at hx
    exact ⟨i0, rfl, hx⟩
 have INF := hide (And.intro hi (And.intro hz0 (And.intro hz1 hz2)))
 have H := hide h
 have hL := h.lt
 have L8 : Hid ((vw s.nm bs).length = 8) := (vw_len _ _).trans h.ni.len
 clear h hi hz0 hz1 hz2
 go_enter Tryz.func60, Tryz.ntmps60
 go_wp2_with fail
 go_loopw [3, 4] (fun v iv wr => ∃ (k : Nat), k ≤ 8 ∧ iv = .int .i64 k ∧ wr.ownsRow w.heap.size 116 1 v k (((vw s.nm bs).take k).map Pe.pt) ∧ Below w.heap.size w wr) (fun v iv _ => 8 - (intOf iv).toNat)
 case atStart => exact ⟨0, by omega, rfl, by simpa using World.ownsRow_nil _ _ _ _, Below.refl _ _⟩
 case round =>
  obtain ⟨k, hk, rfl, ho, hb⟩ := hrel
  have HO := hide ho
  have HB := hide hb
  clear ho hb
  by_cases hlt : k < 8
  ·have nu : wr.cell? ⟨L, 8 + k, none⟩ = some (.int .i64 (nth s.nm k)) := Sh.cellB (H.out.num hlt) HB.out
   have hlt' : (k : Int) < 8 := by omega
   have k0 : (0 : Int) ≤ (k : Int) := by omega
   have TK := hide (vw_take (nm := s.nm) (l := bs) (k := k) (by rw [H.out.ni.len]; exact hlt))
   by_cases h0 : nth s.nm k < 0
   ·have TK2 : Hid ((vw s.nm bs).take (k + 1) = (vw s.nm bs).take k ++ [none]) := by
     have := TK.out
     rw [if_pos h0] at this
     exact this
    have BY := below_alloc wr (.cells #[Value.pointer none] 116)
    have OW3 := hide (own_below HO.out BY)
    have HB3 := hide (btr HB.out BY)
    have SRC := hide (cell_one_new wr (.pointer none) 116)
    clear BY
    go_wp2_with (at_builtin; refine wpList_append_own _ rfl _ _ 72 rfl w.heap.size 116 i0 (.pointer none) 1 8 Tryz.underlying72 INF.out.1 INF.out.2.1 INF.out.2.2.1 INF.out.2.2.2 rfl (by decide) _ _ _ rfl OW3.out ⟨wr.heap.size, 0, none⟩ 1 1 [.pointer none] rfl rfl ?c1 ?c2 ?c3 ?c4 ?c5 ?_)
    case c1 => exact SRC.out
    case c2 => exact pt_one [none]
    case c3 => unfold maxLen; omega
    case c4 => omega
    case c5 => exact HB3.out.size
    intro v' w3 ho hg3 _
    have B3 : Hid (Below w.heap.size w w3) := HB3.out.grown hg3 HB3.out.size (fun x hx => (OW3.out.lt x hx).1)
    have O3 : Hid (w3.ownsRow w.heap.size 116 1 v' (k + 1) (((vw s.nm bs).take (k + 1)).map Pe.pt)) := by
     show World.ownsRow _ _ _ _ _ _ _
     rw [TK2.out, List.map_append, List.map_take]
     exact ho
    clear ho hg3
    go_wp2_with fail
    go_roundw
    case rel => exact ⟨k + 1, by omega, by go_num, O3.out, B3.out⟩
    case measure => simp [intOf]; omega
   ·obtain ⟨n, hn⟩ : ∃ n : Nat, nth s.nm k = (n : Int) := ⟨(nth s.nm k).toNat, by omega⟩
    have nl : n < bs.length := by have := H.out.ni.lt k hlt; omega
    obtain ⟨o, hbo⟩ : ∃ o, bs[n]? = some o := ⟨_, List.getElem?_eq_getElem nl⟩
    have TK2 : Hid ((vw s.nm bs).take (k + 1) = (vw s.nm bs).take k ++ [o]) := by
     have := TK.out
     rw [if_neg h0, hn, Int.toNat_natCast, join_some hbo] at this
     exact this
    obtain ⟨b, off, hoa, hc⟩ := (own_row H.out.rw).1 n o hbo
    have z7 : wr.cell? ⟨L, 7, none⟩ = some (.slice oa bs.length oc) := Sh.cellB (cell_of H.out.hp 7) HB.out
    have zc : wr.cell? ⟨b, off + n, none⟩ = some (Pe.pt o) := Sh.cellB hc HB.out
    rw [hn] at nu
    subst hoa
    have n0 : (0 : Int) ≤ (n : Int) := by omega
    have n1 : (n : Int) < (bs.length : Int) := by omega
    have hn0 : ¬ ((n : Int) < 0) := by omega
    unfold Pe.pt at zc
    have BY := hide (btr (below_alloc wr (.cells #[Pe.pt o] 116)) (bdrew1 _))
    have OW3 := hide (own_below HO.out BY.out)
    have HB3 := hide (btr HB.out BY.out)
    obtain ⟨v', w6, hr, hown, hgrow, _, _⟩ := run_append_own_at (P := Tryz.prog) ((wr.alloc (.cells #[Pe.pt o] 116)).drew) w.heap.size 72 72 116 i0 _ 1 8 Tryz.underlying72 INF.out.1 INF.out.2.1 INF.out.2.2.1 INF.out.2.2.2 rfl (by decide) _ _ _ OW3.out ⟨wr.heap.size, 0, none⟩ 1 1 [Pe.pt o] rfl (cell_one_new wr (Pe.pt o) 116) (pt_one [o]) (by unfold maxLen; omega) (by omega) HB3.out.size
    have B3 : Hid (Below w.heap.size w w6) := HB3.out.grown hgrow HB3.out.size (fun x hx => (OW3.out.lt x hx).1)
    have O3 : Hid (w6.ownsRow w.heap.size 116 1 v' (k + 1) (((vw s.nm bs).take (k + 1)).map Pe.pt)) := by
     show World.ownsRow _ _ _ _ _ _ _
     rw [TK2.out, List.map_append]
     exact hown
    have HR := hide hr
    unfold Pe.pt at HR
    generalize o.map (fun b => (⟨b, 0, none⟩ : Addr)) = po at zc HR
    clear hr hown hgrow OW3 HB3 BY TK TK2 hbo hc HO HB
    go_wp2_with fail
    go_region_law (refine Rp.step_append_run _ (by rfl) _ _ _ _ (by rfl) _ _ (by rfl) (by rfl) _ _ HR.out ?_)
    all_goals
     go_wp2_with fail
     go_roundw
     case rel => exact ⟨k + 1, by omega, by go_num, O3.out, B3.out⟩
     case measure => simp [intOf]; omega
  ·have hlt' : decide ((k : Int) < 8) = false := decide_eq_false (by omega)
   have hk8 : Hid (k = (vw s.nm bs).length) := by show _ = _; rw [L8.out]; omega
   have e8 : (vw s.nm bs).take k = vw s.nm bs := List.take_of_length_le (by rw [L8.out]; omega)
   have O8 := HO.out
   rw [e8] at O8
   obtain ⟨ob, d, rfl⟩ := own_sl1 O8
   have O9 := hide O8
   clear O8 e8 HO
   go_wp2_with fail
   go_ret
   refine ⟨ob, d, by rw [hk8.out]; rfl, ?_, HB.out⟩
   rw [← hk8.out]
   exact O9.out
set_option maxRecDepth 100000 in
set_option maxHeartbeats 1600000 in
theorem wake_any (L N : Nat) (col : Nat → Nat) (s : Lm) (K : Nat) (e : Ev) (w : World) (h : RW w col L N s) (hn : Cr.Bn K s.cr) (hK : K ≤ 100000) (ht : s.tr.length ≤ 1000000) (hm : s.md ≤ 1000) :
 Calls Tryz.prog 67 #[.pointer (some ⟨L, 0, none⟩), En.evv e] w fun r w' => r = .returned (.tuple #[]) ∧ ∃ col', RW w' col' L N (wakesS s e) ∧ Tq col col' w w' := by
 obtain ⟨col1, h1, t1, n1⟩ := h.below (below_alloc w (.cells #[.int .i64 e.k, .int .i64 e.g, .int .i64 e.c, .int .i64 e.a, .int .i64 e.v, .int .i64 e.m, .bool e.s, .bool e.o] 29))
 have T1 := hide t1
 have E1 := hide (heap_new w (.cells #[.int .i64 e.k, .int .i64 e.g, .int .i64 e.c, .int .i64 e.a, .int .i64 e.v, .int .i64 e.m, .bool e.s, .bool e.o] 29))
 have hL := h.lt
 have N1 := hide (n1 w.heap.size (Nat.le_refl _))
 have NO := hide (note_any L N col1 s e (w.alloc (.cells #[.int .i64 e.k, .int .i64 e.g, .int .i64 e.c, .int .i64 e.a, .int .i64 e.v, .int .i64 e.m, .bool e.s, .bool e.o] 29)) h1 ht)
 have HN := hide hn
 unfold En.evv En.evc at NO
 unfold En.evv En.evc
 clear h t1 h1 n1 hn
 go_enter Tryz.func67, Tryz.ntmps67
 go_wp2_with fail
 refine NO.out.mono ?_
 rintro r w2 ⟨rfl, col2, h2, t2⟩
 obtain ⟨C, B, FB, q, pa, pc, oa, oc, bs, Fs, cs, ta, tc, h2⟩ := h2
 have T2 := hide (T1.out.trans t2).drew
 have E2 := hide (t2.heap E1.out N1.out)
 have C2 : Hid (col2 w.heap.size = 7) := (t2.old _ (heap_lt E1.out) (by rw [N1.out]; omega)).trans N1.out
 have y7 := cell_of h2.hp 7
 have a1 := cell_of E2.out 1
 simp [rcs] at y7 a1
 have LE := hide (Fk.rleave_any e.g oa bs oc Fs cs w2.drew h2.drew.qs (by have := h2.md; have : (tellS s e).md = s.md := rfl; omega))
 have H2 := hide h2.drew
 clear h2 t2 NO T1 E1 N1
 go_wp2_with fail
 go_region_with (go_at_call 87; refine LE.out.mono ?_; rintro r w3 ⟨rfl, p3⟩)
 all_goals
  obtain ⟨Fs3, col3, h3, t3⟩ := H2.out.all p3
  have T3 := hide (T2.out.trans t3).drew
  have E3 := hide (t3.heap (heap_below E2.out (bdrew1 _)) C2.out)
  have y6 := cell_of h3.hp 6
  have b1 := cell_of E3.out 1
  simp [rcs] at y6 b1
  have GO := hide (Cr.rturn10 B FB s.cr K e.g w3.drew h3.drew.cr HN.out hK)
  have H3 := hide h3.drew
  have V2 := hide H2.out.vs
  clear h3 t3 p3 LE H2 E2 C2 T2 y7 a1
  go_wp2_with fail
  first
   | refine GO.out.mono ?_
     rintro r w4 ⟨rfl, p4⟩
   | go_region_with (go_at_call 64; refine GO.out.mono ?_; rintro r w4 ⟨rfl, p4⟩)
  all_goals
   obtain ⟨FB4, col4, h4, t4⟩ := H3.out.crew p4
   have H4 := hide h4
   have T4 := hide (T3.out.trans t4)
   clear h4 t4 p4 GO H3 T3
   go_wp2_with fail
   go_end0
   refine ⟨rfl, col4, ?_, T4.out⟩
   have es : wakesS s e = { (tellS s e) with sts := vw s.nm (Fk.leaveS e.g cs), cr := Cr.chL s.cr e.g 1 0 1 } := by
    have : s.sts = vw s.nm cs := V2.out
    simp [wakesS, tellS, vw_leave, ← this]
   rw [es]
   exact H4.out.lw
end Rlo
end Go.Proofs.YtblfimobiibmjabGreat
namespace Go.Proofs.YtblfimobiibmjabGreat
open Go.ChangeShapes Go.WideShapes Go.ChangeAt Go.RowKit
namespace Fk
open Ba Pe _root_.Go.Proofs.YtblfimobiibmjabGreat.Pi Rp
set_option maxRecDepth 100000 in
set_option maxHeartbeats 6400000 in
theorem rtry_false (ch val : Int) (oa : Option Addr) (bs : List (Option Nat)) (cp : Nat) (Fs : Nat → Nat → Prop) (sts : List (Option St)) (w : World) (h : Qs Rr w oa bs Fs sts) (hs : Sml sts) :
 Calls Tryz.prog 84 #[cv ⟨false, ch, val⟩, .slice oa bs.length cp] w fun r w' => r = .returned (.tuple #[gv (tryG sts ⟨false, ch, val⟩), .int .i64 (tryE sts ⟨false, ch, val⟩)]) ∧ Rz Rr w w' oa bs Fs (tryS sts ⟨false, ch, val⟩) := by
 have b1 := below_alloc w (.cells #[.bool false, .int .i64 ch, .int .i64 val] 97)
 have b2 := below_alloc (w.alloc (.cells #[.bool false, .int .i64 ch, .int .i64 val] 97)) (.cells #[.bool false, .bool false, .bool false, .int .i64 0, .int .i64 0, .int .i64 0, .int .i64 0] 155)
 have BB := hide (btr b1 b2)
 have X2 := hide (heap_below (heap_new w (.cells #[.bool false, .int .i64 ch, .int .i64 val] 97)) b2)
 have hz := heap_new (w.alloc (.cells #[.bool false, .int .i64 ch, .int .i64 val] 97)) (.cells #[.bool false, .bool false, .bool false, .int .i64 0, .int .i64 0, .int .i64 0, .int .i64 0] 155)
 rw [World.size_alloc] at hz
 have Z2 := hide hz
 have NM := hide (rnamed_any oa bs ch cp _ (h.row.below BB.out))
 have H := hide h
 have hS2 : ((w.alloc (.cells #[.bool false, .int .i64 ch, .int .i64 val] 97)).alloc (.cells #[.bool false, .bool false, .bool false, .int .i64 0, .int .i64 0, .int .i64 0, .int .i64 0] 155)).heap.size = w.heap.size + 2 := by rw [World.size_alloc, World.size_alloc]
 have NZ : Hid (∀ i, ¬ Fs i (w.heap.size + 1)) := fun i e => by have := h.bd i _ e; omega
 have RR : Hid (∀ a, oa = some a → a.block < w.heap.size ∨ bs = []) := fun a e => by
  cases hb : bs with
  | nil => exact .inr rfl
  | cons o t => exact .inl (h.rl (i := 0) (o := o) (by rw [hb]; rfl) a e)
 clear b1 b2 hz
 unfold tryG tryE tryS cv
 rcases h.nm ch with ⟨e1, e2⟩ | ⟨B, st, e1, e2, h0, hl, hi, hi2, q⟩
 ·rw [e2]
  simp only
  rw [e1] at NM
  simp only [pt, Option.map_none] at NM
  clear h e1 e2
  go_enter Tryz.func84, Tryz.ntmps84
  go_wp2_with fail
  generalize (w.alloc (.cells #[.bool false, .int .i64 ch, .int .i64 val] 97)).alloc (.cells #[.bool false, .bool false, .bool false, .int .i64 0, .int .i64 0, .int .i64 0, .int .i64 0] 155) = W2 at BB X2 Z2 NM hS2 ⊢
  refine NM.out.mono ?_
  rintro r w2 ⟨rfl, rfl⟩
  have x0 : w2.cell? ⟨w.heap.size, 0, none⟩ = some (.bool false) := cell_of X2.out 0
  have x2 : w2.cell? ⟨w.heap.size, 2, none⟩ = some (.int .i64 val) := cell_of X2.out 2
  have z0 : w2.cell? ⟨w.heap.size + 1, 0, none⟩ = some (.bool false) := cell_of Z2.out 0
  have zf0 := frozen_of Z2.out 0
  have z1 : w2.cell? ⟨w.heap.size + 1, 1, none⟩ = some (.bool false) := cell_of Z2.out 1
  have zf1 := frozen_of Z2.out 1
  have z2 : w2.cell? ⟨w.heap.size + 1, 2, none⟩ = some (.bool false) := cell_of Z2.out 2
  have zf2 := frozen_of Z2.out 2
  have z3 : w2.cell? ⟨w.heap.size + 1, 3, none⟩ = some (.int .i64 0) := cell_of Z2.out 3
  have zf3 := frozen_of Z2.out 3
  have z4 : w2.cell? ⟨w.heap.size + 1, 4, none⟩ = some (.int .i64 0) := cell_of Z2.out 4
  have zf4 := frozen_of Z2.out 4
  have z5 : w2.cell? ⟨w.heap.size + 1, 5, none⟩ = some (.int .i64 0) := cell_of Z2.out 5
  have zf5 := frozen_of Z2.out 5
  have z6 : w2.cell? ⟨w.heap.size + 1, 6, none⟩ = some (.int .i64 0) := cell_of Z2.out 6
  have zf6 := frozen_of Z2.out 6
  go_wp2_with fail
  exact bodyPost_ret (results_row2 Tryz.results84 _ _ _ _ _ rfl rfl (loadVar_rgot (got_set Z2.out _ _ _ _ _ _ _) rfl)) rfl ⟨rfl, Rz.set7 frR ⟨Fs, NwA.refl _ _, H.out.below frR BB.out, KF.of BB.out, NZ.out⟩ (Nat.le_succ _) RR.out _ _ _ _ _ _ _⟩
 ·rw [e2]
  simp only [Bool.false_eq_true, if_false]
  rw [e1] at NM
  simp only [pt, Option.map_some] at NM
  have hb1 := (hs _ _ hi2).1
  have hb2 := (hs _ _ hi2).2
  have HI := hide hi
  have P2 := hide (q.below BB.out)
  clear h e1 e2 q hi hi2 h0 hl
  have CL := hide (rrecv_any B _ st _ P2.out hb1 hb2)
  generalize recvG st = gg at CL ⊢
  skip
  obtain ⟨rd, ok, wk, v, ⟨mg, mc, mv⟩⟩ := gg
  unfold gv at CL ⊢
  go_enter Tryz.func84, Tryz.ntmps84
  go_wp2_with fail
  generalize (w.alloc (.cells #[.bool false, .int .i64 ch, .int .i64 val] 97)).alloc (.cells #[.bool false, .bool false, .bool false, .int .i64 0, .int .i64 0, .int .i64 0, .int .i64 0] 155) = W2 at BB X2 Z2 NM hS2 P2 CL ⊢
  refine NM.out.mono ?_
  rintro r w2 ⟨rfl, rfl⟩
  have x0 : w2.cell? ⟨w.heap.size, 0, none⟩ = some (.bool false) := cell_of X2.out 0
  have x2 : w2.cell? ⟨w.heap.size, 2, none⟩ = some (.int .i64 val) := cell_of X2.out 2
  go_wp2_with fail
  refine CL.out.mono ?_
  rintro r w3 ⟨rfl, k3, F3, n3, p3⟩
  have Z3 := hide (k3.heap Z2.out (NZ.out _))
  have R3 := hide (Rz.step frR H.out BB.out HI.out k3 n3 p3)
  have NZ3 : Hid (∃ Fs', NwA Fs' Fs w ∧ Qs Rr w3 oa bs Fs' (sts.set ch.toNat (some (recvS st))) ∧ KF (All Fs) w w3 ∧ ∀ i, ¬ Fs' i (w.heap.size + 1)) := by
   have ha := H.out.below frR BB.out
   refine ⟨up Fs ch.toNat F3, ?_, ha.step frR HI.out k3 n3 p3 (ha.rl HI.out), (KF.of (F := All Fs) BB.out).trans k3 (fun x hx => .inl ⟨_, hx⟩), ?_⟩
   ·intro j x hx
    by_cases e : j = ch.toNat
    ·subst e
     rw [up_same] at hx
     rcases n3 x hx with z | z
     ·exact .inl ⟨_, z⟩
     ·exact .inr (by omega)
    ·rw [up_other _ _ _ _ e] at hx
     exact .inl ⟨j, hx⟩
   ·intro j hx
    by_cases e : j = ch.toNat
    ·subst e
     rw [up_same] at hx
     rcases n3 _ hx with z | z
     ·exact NZ.out _ z
     ·omega
    ·rw [up_other _ _ _ _ e] at hx
     exact NZ.out _ hx
  clear k3 n3 p3 R3
  have z0 : w3.cell? ⟨w.heap.size + 1, 0, none⟩ = some (.bool false) := cell_of Z3.out 0
  have zf0 := frozen_of Z3.out 0
  have z1 : w3.cell? ⟨w.heap.size + 1, 1, none⟩ = some (.bool false) := cell_of Z3.out 1
  have zf1 := frozen_of Z3.out 1
  have z2 : w3.cell? ⟨w.heap.size + 1, 2, none⟩ = some (.bool false) := cell_of Z3.out 2
  have zf2 := frozen_of Z3.out 2
  have z3 : w3.cell? ⟨w.heap.size + 1, 3, none⟩ = some (.int .i64 0) := cell_of Z3.out 3
  have zf3 := frozen_of Z3.out 3
  have z4 : w3.cell? ⟨w.heap.size + 1, 4, none⟩ = some (.int .i64 0) := cell_of Z3.out 4
  have zf4 := frozen_of Z3.out 4
  have z5 : w3.cell? ⟨w.heap.size + 1, 5, none⟩ = some (.int .i64 0) := cell_of Z3.out 5
  have zf5 := frozen_of Z3.out 5
  have z6 : w3.cell? ⟨w.heap.size + 1, 6, none⟩ = some (.int .i64 0) := cell_of Z3.out 6
  have zf6 := frozen_of Z3.out 6
  go_wp2_with fail
  exact bodyPost_ret (results_row2 Tryz.results84 _ _ _ _ _ rfl rfl (loadVar_rgot (got_set Z3.out _ _ _ _ _ _ _) rfl)) rfl ⟨rfl, Rz.set7 frR NZ3.out (Nat.le_succ _) RR.out _ _ _ _ _ _ _⟩
set_option maxRecDepth 100000 in
set_option maxHeartbeats 6400000 in
theorem rtry_true (ch val : Int) (oa : Option Addr) (bs : List (Option Nat)) (cp : Nat) (Fs : Nat → Nat → Prop) (sts : List (Option St)) (w : World) (h : Qs Rr w oa bs Fs sts) (hs : Sml sts) :
 Calls Tryz.prog 84 #[cv ⟨true, ch, val⟩, .slice oa bs.length cp] w fun r w' => r = .returned (.tuple #[gv (tryG sts ⟨true, ch, val⟩), .int .i64 (tryE sts ⟨true, ch, val⟩)]) ∧ Rz Rr w w' oa bs Fs (tryS sts ⟨true, ch, val⟩) := by
 have b1 := below_alloc w (.cells #[.bool true, .int .i64 ch, .int .i64 val] 97)
 have b2 := below_alloc (w.alloc (.cells #[.bool true, .int .i64 ch, .int .i64 val] 97)) (.cells #[.bool false, .bool false, .bool false, .int .i64 0, .int .i64 0, .int .i64 0, .int .i64 0] 155)
 have BB := hide (btr b1 b2)
 have X2 := hide (heap_below (heap_new w (.cells #[.bool true, .int .i64 ch, .int .i64 val] 97)) b2)
 have hz := heap_new (w.alloc (.cells #[.bool true, .int .i64 ch, .int .i64 val] 97)) (.cells #[.bool false, .bool false, .bool false, .int .i64 0, .int .i64 0, .int .i64 0, .int .i64 0] 155)
 rw [World.size_alloc] at hz
 have Z2 := hide hz
 have NM := hide (rnamed_any oa bs ch cp _ (h.row.below BB.out))
 have H := hide h
 have hS2 : ((w.alloc (.cells #[.bool true, .int .i64 ch, .int .i64 val] 97)).alloc (.cells #[.bool false, .bool false, .bool false, .int .i64 0, .int .i64 0, .int .i64 0, .int .i64 0] 155)).heap.size = w.heap.size + 2 := by rw [World.size_alloc, World.size_alloc]
 have NZ : Hid (∀ i, ¬ Fs i (w.heap.size + 1)) := fun i e => by have := h.bd i _ e; omega
 have RR : Hid (∀ a, oa = some a → a.block < w.heap.size ∨ bs = []) := fun a e => by
  cases hb : bs with
  | nil => exact .inr rfl
  | cons o t => exact .inl (h.rl (i := 0) (o := o) (by rw [hb]; rfl) a e)
 clear b1 b2 hz
 unfold tryG tryE tryS cv
 rcases h.nm ch with ⟨e1, e2⟩ | ⟨B, st, e1, e2, h0, hl, hi, hi2, q⟩
 ·rw [e2]
  simp only
  rw [e1] at NM
  simp only [pt, Option.map_none] at NM
  clear h e1 e2
  go_enter Tryz.func84, Tryz.ntmps84
  go_wp2_with fail
  generalize (w.alloc (.cells #[.bool true, .int .i64 ch, .int .i64 val] 97)).alloc (.cells #[.bool false, .bool false, .bool false, .int .i64 0, .int .i64 0, .int .i64 0, .int .i64 0] 155) = W2 at BB X2 Z2 NM hS2 ⊢
  refine NM.out.mono ?_
  rintro r w2 ⟨rfl, rfl⟩
  have x0 : w2.cell? ⟨w.heap.size, 0, none⟩ = some (.bool true) := cell_of X2.out 0
  have x2 : w2.cell? ⟨w.heap.size, 2, none⟩ = some (.int .i64 val) := cell_of X2.out 2
  have z0 : w2.cell? ⟨w.heap.size + 1, 0, none⟩ = some (.bool false) := cell_of Z2.out 0
  have zf0 := frozen_of Z2.out 0
  have z1 : w2.cell? ⟨w.heap.size + 1, 1, none⟩ = some (.bool false) := cell_of Z2.out 1
  have zf1 := frozen_of Z2.out 1
  have z2 : w2.cell? ⟨w.heap.size + 1, 2, none⟩ = some (.bool false) := cell_of Z2.out 2
  have zf2 := frozen_of Z2.out 2
  have z3 : w2.cell? ⟨w.heap.size + 1, 3, none⟩ = some (.int .i64 0) := cell_of Z2.out 3
  have zf3 := frozen_of Z2.out 3
  have z4 : w2.cell? ⟨w.heap.size + 1, 4, none⟩ = some (.int .i64 0) := cell_of Z2.out 4
  have zf4 := frozen_of Z2.out 4
  have z5 : w2.cell? ⟨w.heap.size + 1, 5, none⟩ = some (.int .i64 0) := cell_of Z2.out 5
  have zf5 := frozen_of Z2.out 5
  have z6 : w2.cell? ⟨w.heap.size + 1, 6, none⟩ = some (.int .i64 0) := cell_of Z2.out 6
  have zf6 := frozen_of Z2.out 6
  go_wp2_with fail
  exact bodyPost_ret (results_row2 Tryz.results84 _ _ _ _ _ rfl rfl (loadVar_rgot (got_set Z2.out _ _ _ _ _ _ _) rfl)) rfl ⟨rfl, Rz.set7 frR ⟨Fs, NwA.refl _ _, H.out.below frR BB.out, KF.of BB.out, NZ.out⟩ (Nat.le_succ _) RR.out _ _ _ _ _ _ _⟩
 ·rw [e2]
  simp only [if_true]
  rw [e1] at NM
  simp only [pt, Option.map_some] at NM
  have hb1 := (hs _ _ hi2).1
  have hb2 := (hs _ _ hi2).2
  have HI := hide hi
  have P2 := hide (q.below BB.out)
  clear h e1 e2 q hi hi2 h0 hl
  have CL := hide (rsend_any B _ st val _ P2.out hb1 hb2)
  generalize sendG st = gg at CL ⊢
  generalize sendE st = ee at CL ⊢
  obtain ⟨rd, ok, wk, v, ⟨mg, mc, mv⟩⟩ := gg
  unfold gv at CL ⊢
  go_enter Tryz.func84, Tryz.ntmps84
  go_wp2_with fail
  generalize (w.alloc (.cells #[.bool true, .int .i64 ch, .int .i64 val] 97)).alloc (.cells #[.bool false, .bool false, .bool false, .int .i64 0, .int .i64 0, .int .i64 0, .int .i64 0] 155) = W2 at BB X2 Z2 NM hS2 P2 CL ⊢
  refine NM.out.mono ?_
  rintro r w2 ⟨rfl, rfl⟩
  have x0 : w2.cell? ⟨w.heap.size, 0, none⟩ = some (.bool true) := cell_of X2.out 0
  have x2 : w2.cell? ⟨w.heap.size, 2, none⟩ = some (.int .i64 val) := cell_of X2.out 2
  go_wp2_with fail
  refine CL.out.mono ?_
  rintro r w3 ⟨rfl, k3, F3, n3, p3⟩
  have Z3 := hide (k3.heap Z2.out (NZ.out _))
  have R3 := hide (Rz.step frR H.out BB.out HI.out k3 n3 p3)
  have NZ3 : Hid (∃ Fs', NwA Fs' Fs w ∧ Qs Rr w3 oa bs Fs' (sts.set ch.toNat (some (sendS st val))) ∧ KF (All Fs) w w3 ∧ ∀ i, ¬ Fs' i (w.heap.size + 1)) := by
   have ha := H.out.below frR BB.out
   refine ⟨up Fs ch.toNat F3, ?_, ha.step frR HI.out k3 n3 p3 (ha.rl HI.out), (KF.of (F := All Fs) BB.out).trans k3 (fun x hx => .inl ⟨_, hx⟩), ?_⟩
   ·intro j x hx
    by_cases e : j = ch.toNat
    ·subst e
     rw [up_same] at hx
     rcases n3 x hx with z | z
     ·exact .inl ⟨_, z⟩
     ·exact .inr (by omega)
    ·rw [up_other _ _ _ _ e] at hx
     exact .inl ⟨j, hx⟩
   ·intro j hx
    by_cases e : j = ch.toNat
    ·subst e
     rw [up_same] at hx
     rcases n3 _ hx with z | z
     ·exact NZ.out _ z
     ·omega
    ·rw [up_other _ _ _ _ e] at hx
     exact NZ.out _ hx
  clear k3 n3 p3 R3
  have z0 : w3.cell? ⟨w.heap.size + 1, 0, none⟩ = some (.bool false) := cell_of Z3.out 0
  have zf0 := frozen_of Z3.out 0
  have z1 : w3.cell? ⟨w.heap.size + 1, 1, none⟩ = some (.bool false) := cell_of Z3.out 1
  have zf1 := frozen_of Z3.out 1
  have z2 : w3.cell? ⟨w.heap.size + 1, 2, none⟩ = some (.bool false) := cell_of Z3.out 2
  have zf2 := frozen_of Z3.out 2
  have z3 : w3.cell? ⟨w.heap.size + 1, 3, none⟩ = some (.int .i64 0) := cell_of Z3.out 3
  have zf3 := frozen_of Z3.out 3
  have z4 : w3.cell? ⟨w.heap.size + 1, 4, none⟩ = some (.int .i64 0) := cell_of Z3.out 4
  have zf4 := frozen_of Z3.out 4
  have z5 : w3.cell? ⟨w.heap.size + 1, 5, none⟩ = some (.int .i64 0) := cell_of Z3.out 5
  have zf5 := frozen_of Z3.out 5
  have z6 : w3.cell? ⟨w.heap.size + 1, 6, none⟩ = some (.int .i64 0) := cell_of Z3.out 6
  have zf6 := frozen_of Z3.out 6
  go_wp2_with fail
  exact bodyPost_ret (results_row2 Tryz.results84 _ _ _ _ _ rfl rfl (loadVar_rgot (got_set Z3.out _ _ _ _ _ _ _) rfl)) rfl ⟨rfl, Rz.set7 frR NZ3.out (Nat.le_succ _) RR.out _ _ _ _ _ _ _⟩
theorem rtry_any (c : Ca) (oa : Option Addr) (bs : List (Option Nat)) (cp : Nat) (Fs : Nat → Nat → Prop) (sts : List (Option St)) (w : World) (h : Qs Rr w oa bs Fs sts) (hs : Sml sts) :
 Calls Tryz.prog 84 #[cv c, .slice oa bs.length cp] w fun r w' => r = .returned (.tuple #[gv (tryG sts c), .int .i64 (tryE sts c)]) ∧ Rz Rr w w' oa bs Fs (tryS sts c) := by
 obtain ⟨sd, ch, val⟩ := c
 cases sd
 ·exact rtry_false ch val oa bs cp Fs sts w h hs
 ·exact rtry_true ch val oa bs cp Fs sts w h hs
end Fk
end Go.Proofs.YtblfimobiibmjabGreat
namespace Go.Proofs.YtblfimobiibmjabGreat
open Go.ChangeShapes Go.WideShapes Go.ChangeAt Go.RowKit
namespace Lo
open Ba
section
variable {w : World} {col : Nat → Nat} {L N C B X : Nat} {FB : Nat → Prop} {pa : Option Addr} {pc : Nat} {bs : List (Option Nat)} {Fs : Nat → Nat → Prop} {ta : Option Addr} {tc : Nat} {s : Lm}
end
section
variable {w w1 : World} {col : Nat → Nat} {L N C B X : Nat} {FB : Nat → Prop} {pa : Option Addr} {pc : Nat} {bs : List (Option Nat)} {Fs : Nat → Nat → Prop} {ta : Option Addr} {tc : Nat} {s : Lm}
theorem eight {l : List Int} (h : l.length = 8) : ∃ a0 a1 a2 a3 a4 a5 a6 a7, l = [a0, a1, a2, a3, a4, a5, a6, a7] := by
 match l, h with
 | [a0, a1, a2, a3, a4, a5, a6, a7], _ => exact ⟨a0, a1, a2, a3, a4, a5, a6, a7, rfl⟩
end
end Lo
end Go.Proofs.YtblfimobiibmjabGreat
namespace Go.Proofs.YtblfimobiibmjabGreat
open Go.ChangeShapes Go.WideShapes Go.ChangeAt Go.RowKit
namespace Lo
open Ba
end Lo
end Go.Proofs.YtblfimobiibmjabGreat
namespace Go.Proofs.YtblfimobiibmjabGreat
open Go.ChangeShapes Go.WideShapes Go.ChangeAt Go.RowKit
namespace Lo
open Ba
theorem set7 {w : World} {b i z : Nat} {v u0 u1 u2 u3 u4 u5 u6 : Value} (h : w.cell? ⟨b, i, none⟩ = some v) (hn : b ≠ z) : (((((((w.setCell ⟨z, 0, none⟩ u0).setCell ⟨z, 1, none⟩ u1).setCell ⟨z, 2, none⟩ u2).setCell ⟨z, 3, none⟩ u3).setCell ⟨z, 4, none⟩ u4).setCell ⟨z, 5, none⟩ u5).setCell ⟨z, 6, none⟩ u6).cell? ⟨b, i, none⟩ = some v := by
 have K := (((((((KB.refl z w).setCell 0 u0).setCell 1 u1).setCell 2 u2).setCell 3 u3).setCell 4 u4).setCell 5 u5).setCell 6 u6
 rw [← h]
 have := K.block b (World.block_lt_of_cell? w _ h) hn
 simp only [World.cell?, this]
theorem kset1 {w : World} {b i z : Nat} {v : Value} (h : w.cell? ⟨b, i, none⟩ = some v) (hn : b ≠ z) {i1 : Nat} {u1 : Value} : (w.setCell ⟨z, i1, none⟩ u1).cell? ⟨b, i, none⟩ = some v := by
 have K := (KB.refl z w).setCell i1 u1
 rw [← h]
 have := K.block b (World.block_lt_of_cell? w _ h) hn
 simp only [World.cell?, this]
structure Ok (K : Nat) (s : Lm) : Prop where
 cb : Cr.Bn K s.cr
 tn : s.tr.length ≤ K
 sm : Fk.Sml s.sts
 wl : ∀ (i : Nat) (st : St), s.sts[i]? = some (some st) → ∀ b, (_root_.Go.Proofs.YtblfimobiibmjabGreat.Pi.own st b).length ≤ 1000
 md : 0 ≤ s.md ∧ s.md ≤ 1000
 dd : ∀ x ∈ s.d, 0 ≤ x
end Lo
end Go.Proofs.YtblfimobiibmjabGreat
namespace Go.Proofs.YtblfimobiibmjabGreat
open Go.ChangeShapes Go.WideShapes Go.ChangeAt Go.RowKit
namespace Rlo
open Ba Lo
def talkF (s : Lm) (g at_ : Int) (c : Ca) : Lm :=
 if Fk.tryE s.sts c ≠ 0 then panicS { s with sts := Fk.tryS s.sts c } g
 else if (Fk.tryG s.sts c).wk then wakesS (goS { s with sts := Fk.tryS s.sts c } (tryV s g at_ c (Fk.tryG s.sts c))) (servV (tryV s g at_ c (Fk.tryG s.sts c)) (Fk.tryG s.sts c))
 else goS { s with sts := Fk.tryS s.sts c } (tryV s g at_ c (Fk.tryG s.sts c))
theorem own_base {w : World} {base b2 : Nat} {e : TypeId} {size : Nat} {v : Value} {n : Nat} {xs : List Value} (h : w.ownsRow base e size v n xs) (hb : b2 ≤ base) : w.ownsRow b2 e size v n xs := by
 refine ⟨h.1, ?_⟩
 rcases h.2 with q | ⟨g, cap, cur, q1, q2, q3, q4⟩
 ·exact .inl q
 ·exact .inr ⟨g, cap, cur, q1, Nat.le_trans hb q2, q3, q4⟩
theorem pipes_q {L N C B : Nat} {col : Nat → Nat} {FB : Nat → Prop} {q : Hd} {pa : Option Addr} {pc : Nat} {oa : Option Addr} {oc : Nat} {bs : List (Option Nat)} {Fs : Nat → Nat → Prop} {cs : List (Option St)} {ta : Option Addr} {tc : Nat} {s : Lm} (w u : World) (h : RX w col L N C B FB q pa pc oa oc bs Fs cs ta tc s) (hb : Below w.heap.size w u) :
 Calls Tryz.prog 60 #[.pointer (some ⟨L, 0, none⟩)] u fun r w' => ∃ ob d, r = .returned (.slice ob (vw s.nm bs).length d) ∧ Fk.Qs Rp.Rr w' ob (vw s.nm bs) (Fv s.nm Fs) s.sts ∧ Below u.heap.size u w' := by
 obtain ⟨colu, hu, -, -⟩ := h.below hb
 refine (pipes_r u hu).mono ?_
 rintro r w1 ⟨ob, d, rfl, o1, b1⟩
 exact ⟨ob, d, rfl, h.view (btr hb b1) (own_base o1 hb.size), b1⟩
section
variable {w w3 : World} {col col3 : Nat → Nat} {L N C B : Nat} {FB : Nat → Prop} {q : Hd} {pa : Option Addr} {pc : Nat} {oa : Option Addr} {oc : Nat} {bs : List (Option Nat)} {Fs : Nat → Nat → Prop} {cs : List (Option St)} {ta : Option Addr} {tc : Nat} {s : Lm}
theorem RX.box {Eb : Nat} {e : Obj} (h : RX w3 col3 L N C B FB q pa pc oa oc bs Fs cs ta tc s) (t : Tq col col3 w w3) (E : w3.heap[Eb]? = some e) (c : col3 Eb = 7) (cells : Array Value) (ty : TypeId) :
 ∃ col4, RX (w3.alloc (.cells cells ty)) col4 L N C B FB q pa pc oa oc bs Fs cs ta tc s ∧ Tq col col4 w (w3.alloc (.cells cells ty)) ∧ ((w3.alloc (.cells cells ty)).heap[Eb]? = some e ∧ col4 Eb = 7) ∧ (w3.alloc (.cells cells ty)).heap[w3.heap.size]? = some (.cells cells ty (0, 0)) ∧ col4 w3.heap.size = 7 := by
 obtain ⟨col4, h4, t4, n4⟩ := h.below (below_alloc w3 (.cells cells ty))
 exact ⟨col4, h4, t.trans t4, ⟨t4.heap E c, (t4.old _ (heap_lt E) (by rw [c]; omega)).trans c⟩, heap_new _ _, n4 _ (Nat.le_refl _)⟩
theorem Tq.temp {col' : Nat → Nat} {w' : World} (h : Tq col col' w w') {z : Nat} (hz : w.heap.size ≤ z) (i : Nat) (v : Value) : Tq col col' w (w'.setCell ⟨z, i, none⟩ v) := by
 have kb := (KB.refl z w').setCell i v
 exact ⟨kb.os.trans h.os, kb.tape.trans h.tape, kb.output.trans h.output, Nat.le_trans h.size kb.size, fun x hx hc => (kb.block x (Nat.lt_of_lt_of_le hx h.size) (by omega)).trans (h.block x hx hc), h.old⟩
theorem RX.kb {z : Nat} {w4 : World} (h : RX w3 col3 L N C B FB q pa pc oa oc bs Fs cs ta tc s) (kb : KB z w3 w4) (hz : col3 z = 7) : RX w4 col3 L N C B FB q pa pc oa oc bs Fs cs ta tc s :=
 h.keep ⟨kb.os, kb.tape, kb.output, kb.size, fun x hx hc => kb.block x hx (fun e => hc (by rw [e]; exact hz)), fun _ _ => rfl⟩
theorem Tq.kb {z : Nat} {w4 : World} (h : Tq col col3 w w3) (kb : KB z w3 w4) (hz : w.heap.size ≤ z) : Tq col col3 w w4 :=
 ⟨kb.os.trans h.os, kb.tape.trans h.tape, kb.output.trans h.output, Nat.le_trans h.size kb.size, fun x hx hc => (kb.block x (Nat.lt_of_lt_of_le hx h.size) (by omega)).trans (h.block x hx hc), h.old⟩
theorem RX.box7 {Eb Z : Nat} {e : Obj} {c0 c1 c2 c3 c4 c5 c6 : Value} {ty : TypeId} (h : RX w3 col3 L N C B FB q pa pc oa oc bs Fs cs ta tc s) (t : Tq col col3 w w3) (E : w3.heap[Eb]? = some e) (hne : Eb < Z) (hz : w.heap.size ≤ Z) (G : w3.heap[Z]? = some (.cells #[c0, c1, c2, c3, c4, c5, c6] ty (0, 0))) (cZ : col3 Z = 7) (u0 u1 u2 u3 u4 u5 u6 : Value) (W : World)
 (hW : W = ((((((w3.setCell ⟨Z, 0, none⟩ u0).setCell ⟨Z, 1, none⟩ u1).setCell ⟨Z, 2, none⟩ u2).setCell ⟨Z, 3, none⟩ u3).setCell ⟨Z, 4, none⟩ u4).setCell ⟨Z, 5, none⟩ u5).setCell ⟨Z, 6, none⟩ u6) :
 RX W col3 L N C B FB q pa pc oa oc bs Fs cs ta tc s ∧ Tq col col3 w W ∧ W.heap[Eb]? = some e ∧ W.heap[Z]? = some (.cells #[u0, u1, u2, u3, u4, u5, u6] ty (0, 0)) := by
 subst hW
 have K7 := (((((((KB.refl Z w3).setCell 0 u0).setCell 1 u1).setCell 2 u2).setCell 3 u3).setCell 4 u4).setCell 5 u5).setCell 6 u6
 refine ⟨((((((h.temp (i := 0) (v := u0) cZ).temp (i := 1) (v := u1) cZ).temp (i := 2) (v := u2) cZ).temp (i := 3) (v := u3) cZ).temp (i := 4) (v := u4) cZ).temp (i := 5) (v := u5) cZ).temp (i := 6) (v := u6) cZ, ((((((t.temp hz 0 u0).temp hz 1 u1).temp hz 2 u2).temp hz 3 u3).temp hz 4 u4).temp hz 5 u5).temp hz 6 u6, K7.heap E (by omega), ?_⟩
 have g0 := Ba.heap_setCell_same G (i := 0) u0
 have g1 := Ba.heap_setCell_same g0 (i := 1) u1
 have g2 := Ba.heap_setCell_same g1 (i := 2) u2
 have g3 := Ba.heap_setCell_same g2 (i := 3) u3
 have g4 := Ba.heap_setCell_same g3 (i := 4) u4
 have g5 := Ba.heap_setCell_same g4 (i := 5) u5
 have g6 := Ba.heap_setCell_same g5 (i := 6) u6
 rw [g6]
 simp
end
set_option maxRecDepth 100000 in
set_option maxHeartbeats 3200000 in
theorem talk_recv (L N : Nat) (col : Nat → Nat) (s : Lm) (K : Nat) (g at_ : Int) (sd : Bool) (k : Nat) (v : Int) (w : World) (h : RW w col L N s) (ok : Ok K s) (hK : K ≤ 99000) (hk : k < 8) (hsd : sd = false) :
 Calls Tryz.prog 62 #[.pointer (some ⟨L, 0, none⟩), .int .i64 g, .agg #[.bool sd, .int .i64 (k : Int), .int .i64 v], .int .i64 at_] w fun r w' => r = .returned (.tuple #[]) ∧ ∃ col', RW w' col' L N (talkF s g at_ ⟨sd, k, v⟩) ∧ Tq col col' w w' := by
 obtain ⟨C, B, FB, hd, pa, pc, oa, oc, bs, Fs, cs, ta, tc, h⟩ := h
 obtain ⟨col1, h1, t1, n1⟩ := h.below (below_alloc w (.cells #[.bool sd, .int .i64 (k : Int), .int .i64 v] 97))
 have T1 := hide t1
 have H1 := hide h1
 have E1 := hide (heap_new w (.cells #[.bool sd, .int .i64 (k : Int), .int .i64 v] 97))
 have N1 := hide (n1 w.heap.size (Nat.le_refl _))
 have hL := h.lt
 have PI := hide (fun u (hb : Below (w.alloc (.cells #[.bool sd, .int .i64 (k : Int), .int .i64 v] 97)).heap.size (w.alloc (.cells #[.bool sd, .int .i64 (k : Int), .int .i64 v] 97)) u) => pipes_q (w.alloc (.cells #[.bool sd, .int .i64 (k : Int), .int .i64 v] 97)) u H1.out hb)
 have TY := hide (fun u ob d (hq : Fk.Qs Rp.Rr u ob (vw s.nm bs) (Fv s.nm Fs) s.sts) => Fk.rtry_any ⟨sd, k, v⟩ ob (vw s.nm bs) d (Fv s.nm Fs) s.sts u hq ok.sm)
 obtain ⟨R, hR⟩ : ∃ R, talkF s g at_ ⟨sd, k, v⟩ = R := ⟨_, rfl⟩
 rw [hR]
 unfold talkF at hR
 unfold Fk.cv at TY
 have OK := hide ok
 have HSD := hide hsd
 clear h t1 h1 n1 ok hsd
 generalize Fk.tryG s.sts ⟨sd, k, v⟩ = t at TY hR
 generalize Fk.tryE s.sts ⟨sd, k, v⟩ = er at TY hR
 generalize Fk.tryS s.sts ⟨sd, k, v⟩ = sts' at TY hR
 have HR := hide hR
 clear hR
 unfold _root_.Go.Proofs.YtblfimobiibmjabGreat.Pi.gv at TY
 go_enter Tryz.func62, Tryz.ntmps62
 go_wp2_with fail
 go_region_held3 (fun w' => w'.cell? ⟨w.heap.size, 0, none⟩ = some (.bool sd) ∧ w'.cell? ⟨w.heap.size, 1, none⟩ = some (.int .i64 (k : Int)) ∧ w'.cell? ⟨w.heap.size, 2, none⟩ = some (.int .i64 v))
  (first | (go_keep; done) | (exact ⟨set7 z0 (by omega), set7 z1 (by omega), set7 z2 (by omega)⟩) | (exact ⟨y0, y1, y2⟩))
  (first
    | (go_at_call 60; refine (PI.out _ (bdrew1 _)).mono ?_; rintro r w2 ⟨ob, d, rfl, q2, b2⟩; have hb2 := btr (bdrew1 (w.alloc (.cells #[.bool sd, .int .i64 (k : Int), .int .i64 v] 97))) b2; have Y2 := hide (heap_below E1.out hb2); have y0 : w2.cell? ⟨w.heap.size, 0, none⟩ = some (.bool sd) := cell_of Y2.out 0; have y1 : w2.cell? ⟨w.heap.size, 1, none⟩ = some (.int .i64 (k : Int)) := cell_of Y2.out 1; have y2 : w2.cell? ⟨w.heap.size, 2, none⟩ = some (.int .i64 v) := cell_of Y2.out 2; have hY2 : w.heap.size < w2.heap.size := heap_lt Y2.out)
    | (go_at_call 60; refine (PI.out _ (btr (below_alloc _ _) (bdrew1 _))).mono ?_; rintro r w2 ⟨ob, d, rfl, q2, b2⟩; have hb2 := btr (btr (below_alloc (w.alloc (.cells #[.bool sd, .int .i64 (k : Int), .int .i64 v] 97)) (.cells #[.bool false, .bool false, .bool false, .int .i64 0, .int .i64 0, .int .i64 0, .int .i64 0] 155)) (bdrew1 _)) b2; have Y2 := hide (heap_below E1.out hb2); have y0 : w2.cell? ⟨w.heap.size, 0, none⟩ = some (.bool sd) := cell_of Y2.out 0; have y1 : w2.cell? ⟨w.heap.size, 1, none⟩ = some (.int .i64 (k : Int)) := cell_of Y2.out 1; have y2 : w2.cell? ⟨w.heap.size, 2, none⟩ = some (.int .i64 v) := cell_of Y2.out 2; have hY2 : w.heap.size < w2.heap.size := heap_lt Y2.out; have G2 := hide (heap_below (En.heap_new2 w (.cells #[.bool sd, .int .i64 (k : Int), .int .i64 v] 97) (.cells #[.bool false, .bool false, .bool false, .int .i64 0, .int .i64 0, .int .i64 0, .int .i64 0] 155)) (btr (bdrew1 _) b2)))
    | (go_at_call 84; have G2x := G2; refine (TY.out _ ob d q2).mono ?_; rintro r w3 ⟨rfl, p3⟩; obtain ⟨Fs3, cs3, col3, h3, t3, m3⟩ := H1.out.back hb2 p3; have E3 := hide (t3.heap E1.out N1.out); have z0 : w3.cell? ⟨w.heap.size, 0, none⟩ = some (.bool sd) := cell_of E3.out 0; have z1 : w3.cell? ⟨w.heap.size, 1, none⟩ = some (.int .i64 (k : Int)) := cell_of E3.out 1; have z2 : w3.cell? ⟨w.heap.size, 2, none⟩ = some (.int .i64 v) := cell_of E3.out 2; have hE3 : w.heap.size < w3.heap.size := heap_lt E3.out; have G3 := hide ((m3 (w.heap.size + 1) (by rw [World.size_alloc]; omega) (heap_lt G2.out)).2.trans G2.out); have g0 := cell_of G3.out 0; have f0 := frozen_of G3.out 0; have g1 := cell_of G3.out 1; have f1 := frozen_of G3.out 1; have g2 := cell_of G3.out 2; have f2 := frozen_of G3.out 2; have g3 := cell_of G3.out 3; have f3 := frozen_of G3.out 3; have g4 := cell_of G3.out 4; have f4 := frozen_of G3.out 4; have g5 := cell_of G3.out 5; have f5 := frozen_of G3.out 5; have g6 := cell_of G3.out 6; have f6 := frozen_of G3.out 6; simp at g0 g1 g2 g3 g4 g5 g6)
    | (go_at_call 84; refine (TY.out (w2.alloc (.cells #[.bool false, .bool false, .bool false, .int .i64 0, .int .i64 0, .int .i64 0, .int .i64 0] 155)) ob d (q2.below Fk.frR (below_alloc _ _))).mono ?_; rintro r w3 ⟨rfl, p3⟩; obtain ⟨Fs3, cs3, col3, h3, t3, m3⟩ := H1.out.back (btr hb2 (below_alloc _ _)) p3; have E3 := hide (t3.heap E1.out N1.out); have z0 : w3.cell? ⟨w.heap.size, 0, none⟩ = some (.bool sd) := cell_of E3.out 0; have z1 : w3.cell? ⟨w.heap.size, 1, none⟩ = some (.int .i64 (k : Int)) := cell_of E3.out 1; have z2 : w3.cell? ⟨w.heap.size, 2, none⟩ = some (.int .i64 v) := cell_of E3.out 2; have hE3 : w.heap.size < w3.heap.size := heap_lt E3.out; have G3 := hide ((m3 w2.heap.size hb2.size (by rw [World.size_alloc]; omega)).2.trans (heap_new w2 (.cells #[.bool false, .bool false, .bool false, .int .i64 0, .int .i64 0, .int .i64 0, .int .i64 0] 155))); have g0 := cell_of G3.out 0; have f0 := frozen_of G3.out 0; have g1 := cell_of G3.out 1; have f1 := frozen_of G3.out 1; have g2 := cell_of G3.out 2; have f2 := frozen_of G3.out 2; have g3 := cell_of G3.out 3; have f3 := frozen_of G3.out 3; have g4 := cell_of G3.out 4; have f4 := frozen_of G3.out 4; have g5 := cell_of G3.out 5; have f5 := frozen_of G3.out 5; have g6 := cell_of G3.out 6; have f6 := frozen_of G3.out 6; simp at g0 g1 g2 g3 g4 g5 g6)
    | (go_at_call 84; refine (TY.out _ ob d q2).mono ?_; rintro r w3 ⟨rfl, p3⟩; obtain ⟨Fs3, cs3, col3, h3, t3, m3⟩ := H1.out.back hb2 p3; have E3 := hide (t3.heap E1.out N1.out); have z0 : w3.cell? ⟨w.heap.size, 0, none⟩ = some (.bool sd) := cell_of E3.out 0; have z1 : w3.cell? ⟨w.heap.size, 1, none⟩ = some (.int .i64 (k : Int)) := cell_of E3.out 1; have z2 : w3.cell? ⟨w.heap.size, 2, none⟩ = some (.int .i64 v) := cell_of E3.out 2; have hE3 : w.heap.size < w3.heap.size := heap_lt E3.out))
 case' _ =>
  have N3 : Hid (col3 w.heap.size = 7) := (t3.old _ (heap_lt E1.out) (by rw [N1.out]; omega)).trans N1.out
  obtain ⟨col4, h4, t4, ⟨e4, n4⟩, g4, c4⟩ := h3.box (T1.out.trans t3) E3.out N3.out #[.bool t.rd, .bool t.ok, .bool t.wk, .int .i64 t.v, .int .i64 t.m.g, .int .i64 t.m.c, .int .i64 t.m.v] 155
  have H4 := hide h4
  have T4 := hide t4
  have E4 := hide e4
  have N4 := hide n4
  have G4 := hide g4
  have C4 := hide c4
  have hne : w.heap.size < w3.heap.size := hE3
  rename_i hH2
  clear hH2 m3 p3 h3 t3 h4 t4 e4 n4 g4 c4 z0 z1 z2 hE3 T1 H1 E1 E3 N1 N3 TY PI q2 b2 hb2 Y2 y0 y1 y2 hY2
  generalize w3.heap.size = Gb at *
  generalize w3.alloc (.cells #[.bool t.rd, .bool t.ok, .bool t.wk, .int .i64 t.v, .int .i64 t.m.g, .int .i64 t.m.c, .int .i64 t.m.v] 155) = w4 at *
 rotate_left
 case' _ =>
  have N4 : Hid (col3 w.heap.size = 7) := (t3.old _ (heap_lt E1.out) (by rw [N1.out]; omega)).trans N1.out
  have C4 := hide (m3 w2.heap.size hb2.size (by rw [World.size_alloc]; omega)).1
  obtain ⟨w4, hW⟩ : ∃ w4, w4 = ((((((w3.setCell ⟨w2.heap.size, 0, none⟩ (.bool t.rd)).setCell ⟨w2.heap.size, 1, none⟩ (.bool t.ok)).setCell ⟨w2.heap.size, 2, none⟩ (.bool t.wk)).setCell ⟨w2.heap.size, 3, none⟩ (.int .i64 t.v)).setCell ⟨w2.heap.size, 4, none⟩ (.int .i64 t.m.g)).setCell ⟨w2.heap.size, 5, none⟩ (.int .i64 t.m.c)).setCell ⟨w2.heap.size, 6, none⟩ (.int .i64 t.m.v) := ⟨_, rfl⟩
  obtain ⟨h4, t4, e4, gg⟩ := h3.box7 (T1.out.trans t3) E3.out hY2 (by omega) G3.out C4.out (.bool t.rd) (.bool t.ok) (.bool t.wk) (.int .i64 t.v) (.int .i64 t.m.g) (.int .i64 t.m.c) (.int .i64 t.m.v) w4 hW
  rw [← hW]
  have H4 := hide h4
  have T4 := hide t4
  have E4 := hide e4
  have G4 := hide gg
  have hne : w.heap.size < w2.heap.size := hY2
  rename_i hH2
  clear hH2 hW m3 p3 h3 t3 h4 t4 e4 gg z0 z1 z2 hE3 T1 H1 E1 E3 N1 TY PI q2 b2 hb2 Y2 y0 y1 y2 hY2 G3 g0 g1 g2 g3 g4 g5 g6 f0 f1 f2 f3 f4 f5 f6
  generalize w2.heap.size = Gb at *
  generalize col3 = col4 at *
 rotate_left
 case' _ =>
  have N4 : Hid (col3 w.heap.size = 7) := (t3.old _ (heap_lt E1.out) (by rw [N1.out]; omega)).trans N1.out
  have C4 := hide (m3 (w.heap.size + 1) (by rw [World.size_alloc]; omega) (heap_lt G2.out)).1
  obtain ⟨w4, hW⟩ : ∃ w4, w4 = ((((((w3.setCell ⟨w.heap.size + 1, 0, none⟩ (.bool t.rd)).setCell ⟨w.heap.size + 1, 1, none⟩ (.bool t.ok)).setCell ⟨w.heap.size + 1, 2, none⟩ (.bool t.wk)).setCell ⟨w.heap.size + 1, 3, none⟩ (.int .i64 t.v)).setCell ⟨w.heap.size + 1, 4, none⟩ (.int .i64 t.m.g)).setCell ⟨w.heap.size + 1, 5, none⟩ (.int .i64 t.m.c)).setCell ⟨w.heap.size + 1, 6, none⟩ (.int .i64 t.m.v) := ⟨_, rfl⟩
  obtain ⟨h4, t4, e4, gg⟩ := h3.box7 (T1.out.trans t3) E3.out (by omega) (by omega) G3.out C4.out (.bool t.rd) (.bool t.ok) (.bool t.wk) (.int .i64 t.v) (.int .i64 t.m.g) (.int .i64 t.m.c) (.int .i64 t.m.v) w4 hW
  rw [← hW]
  have H4 := hide h4
  have T4 := hide t4
  have E4 := hide e4
  have G4 := hide gg
  have hne : w.heap.size < w.heap.size + 1 := by omega
  rename_i hH2
  clear hH2 hW m3 p3 h3 t3 h4 t4 e4 gg z0 z1 z2 hE3 T1 H1 E1 E3 N1 TY PI q2 b2 hb2 Y2 y0 y1 y2 hY2 G2 G2x G3 g0 g1 g2 g3 g4 g5 g6 f0 f1 f2 f3 f4 f5 f6
  generalize w.heap.size + 1 = Gb at *
  generalize col3 = col4 at *
 all_goals
  have c0 : w4.cell? ⟨w.heap.size, 0, none⟩ = some (.bool sd) := cell_of E4.out 0
  have c1 : w4.cell? ⟨w.heap.size, 1, none⟩ = some (.int .i64 (k : Int)) := cell_of E4.out 1
  have c2 : w4.cell? ⟨w.heap.size, 2, none⟩ = some (.int .i64 v) := cell_of E4.out 2
  have hR := HR.out
  by_cases h0 : er = 0
  ·subst h0
   rw [if_neg (by simp)] at hR
   have q1 : w4.cell? ⟨Gb, 1, none⟩ = some (.bool t.ok) := cell_of G4.out 1
   have q3 : w4.cell? ⟨Gb, 3, none⟩ = some (.int .i64 t.v) := cell_of G4.out 3
   have nu : w4.cell? ⟨L, 8 + k, none⟩ = some (.int .i64 (nth s.nm k)) := H4.out.num hk
   have k0 : (0 : Int) ≤ (k : Int) := by omega
   have k8 : (k : Int) < 8 := by omega
   have ne1 := World.new_ne w4 _ c1
   have ne2 := World.new_ne w4 _ nu
   have ne3 := World.new_ne w4 _ q3
   have ne4 := World.new_ne w4 _ q1
   clear HR
   go_wp2_with fail
   go_region_held3 (fun w' => w'.cell? ⟨w.heap.size, 1, none⟩ = some (.int .i64 (k : Int)) ∧ w'.cell? ⟨L, 8 + k, none⟩ = some (.int .i64 (nth s.nm k)) ∧ w'.cell? ⟨Gb, 3, none⟩ = some (.int .i64 t.v) ∧ w'.cell? ⟨Gb, 1, none⟩ = some (.bool t.ok))
    (go_keep)
    (fail)
   obtain ⟨col5, h5, t5, n5⟩ := H4.out.below (btr (below_alloc w4 (.cells #[.int .i64 4, .int .i64 g, .int .i64 (nth s.nm k), .int .i64 at_, .int .i64 t.v, .int .i64 (-1), .bool false, .bool t.ok] 29)) (bdrew1 _))
   have V5 := hide (heap_below (heap_new w4 (.cells #[.int .i64 4, .int .i64 g, .int .i64 (nth s.nm k), .int .i64 at_, .int .i64 t.v, .int .i64 (-1), .bool false, .bool t.ok] 29)) (bdrew1 _))
   have C5 := hide (n5 w4.heap.size (Nat.le_refl _))
   have G5 := hide (t5.heap G4.out C4.out)
   have D5 : Hid (col5 Gb = 7) := (t5.old _ (heap_lt G4.out) (by rw [C4.out]; omega)).trans C4.out
   have E5 := hide (t5.heap E4.out N4.out)
   have NC5 : Hid (col5 w.heap.size = 7) := (t5.old _ (heap_lt E4.out) (by rw [N4.out]; omega)).trans N4.out
   have T5 := hide (T4.out.trans t5)
   have H5 := hide h5
   have hG4 := heap_lt G4.out
   have hz5 : w.heap.size ≤ w4.heap.size := by omega
   have hne4 : w.heap.size ≠ w4.heap.size := by omega
   have hne5 : Gb ≠ w4.heap.size := by omega
   rename_i hH3
   clear hH3 h5 t5 n5 H4 T4 E4 N4 G4 C4 c0 c1 c2 q1 q3 nu ne1 ne2 ne3 ne4 hG4
   generalize (w4.alloc (.cells #[.int .i64 4, .int .i64 g, .int .i64 (nth s.nm k), .int .i64 at_, .int .i64 t.v, .int .i64 (-1), .bool false, .bool t.ok] 29)).drew = w5 at *
   generalize w4.heap.size = Eb at *
   have c0 : w5.cell? ⟨w.heap.size, 0, none⟩ = some (.bool sd) := cell_of E5.out 0
   have c1 : w5.cell? ⟨w.heap.size, 1, none⟩ = some (.int .i64 (k : Int)) := cell_of E5.out 1
   have c2 : w5.cell? ⟨w.heap.size, 2, none⟩ = some (.int .i64 v) := cell_of E5.out 2
   have q2 : w5.cell? ⟨Gb, 2, none⟩ = some (.bool t.wk) := cell_of G5.out 2
   have q4 : w5.cell? ⟨Gb, 4, none⟩ = some (.int .i64 t.m.g) := cell_of G5.out 4
   have v0 := cell_of V5.out 0
   have v1 := cell_of V5.out 1
   have v2 := cell_of V5.out 2
   have v3 := cell_of V5.out 3
   have v4 := cell_of V5.out 4
   have v5 := cell_of V5.out 5
   have v6 := cell_of V5.out 6
   have v7 := cell_of V5.out 7
   have e0 := frozen_of V5.out 0
   have e1 := frozen_of V5.out 1
   have e2 := frozen_of V5.out 2
   have e3 := frozen_of V5.out 3
   have e4 := frozen_of V5.out 4
   have e5 := frozen_of V5.out 5
   have e6 := frozen_of V5.out 6
   have e7 := frozen_of V5.out 7
   simp at v0 v1 v2 v3 v4 v5 v6 v7
   cases sd
   ·cases hw : t.wk
    ·have hv : tryV s g at_ ⟨false, k, v⟩ t = (⟨4, g, nth s.nm k, at_, t.v, (-1), false, t.ok⟩ : Ev) := by simp [tryV, num, hw]
     rw [hw] at hR q2
     rw [hv] at hR
     have NO := hide (note_any L N col5 _ (⟨4, g, nth s.nm k, at_, t.v, (-1), false, t.ok⟩ : Ev) _ H5.out.lw (by have := OK.out.tn; show s.tr.length ≤ _; omega))
     unfold En.evv En.evc at NO
     go_wp2_with fail
     refine NO.out.mono ?_
     rintro r w7 ⟨rfl, col7, h7, t7⟩
     obtain ⟨C7, B7, FB7, hd7, pa7, pc7, oa7, oc7, bs7, Fs7, cs7, ta7, tc7, h7⟩ := h7
     have T7 := hide (T5.out.trans t7)
     have G7 := hide (t7.heap G5.out D5.out)
     have D7 : Hid (col7 Gb = 7) := (t7.old _ (heap_lt G5.out) (by rw [D5.out]; omega)).trans D5.out
     have y6 := cell_of h7.hp 6
     simp [rcs] at y6
     have GO := hide (Cr.rturn00 B7 FB7 s.cr K g w7 h7.cr OK.out.cb (by omega))
     have H7 := hide h7
     clear NO h7 t7 v0 v1 v2 v3 v4 v5 v6 v7 e5 q2 q4
     go_wp2_with fail
     refine GO.out.mono ?_
     rintro r w8 ⟨rfl, p8⟩
     obtain ⟨FB8, col8, h8, t8⟩ := H7.out.crew p8
     have H8 := hide h8
     have T8 := hide (T7.out.trans t8)
     have G8 := hide (t8.heap G7.out D7.out)
     have x2 : w8.cell? ⟨Gb, 2, none⟩ = some (.bool t.wk) := cell_of G8.out 2
     rw [hw] at x2
     clear GO h8 t8 p8 H7 T7
     go_wp2_with fail
     simp only [Bool.false_eq_true, if_false] at hR
     subst hR
     exact bodyPost_ret (results_none rfl _ _ _) rfl ⟨rfl, col8, H8.out.lw, T8.out⟩
    ·have hv : tryV s g at_ ⟨false, k, v⟩ t = (⟨4, g, nth s.nm k, at_, t.v, t.m.g, false, t.ok⟩ : Ev) := by simp [tryV, num, hw]
     rw [hw] at hR q2
     rw [hv] at hR
     have V6 := hide (Ba.heap_setCell_same V5.out (i := 5) (.int .i64 t.m.g))
     have K6 := (KB.refl Eb w5).setCell 5 (.int .i64 t.m.g)
     have H6 := hide (H5.out.kb K6 C5.out)
     have T6 := hide (T5.out.kb K6 hz5)
     have G6 := hide (K6.heap G5.out hne5)
     have E6 := hide (K6.heap E5.out hne4)
     have F5 : Hid (col5 w.heap.size = 7) := NC5.out
     have NO := hide (note_any L N col5 _ (⟨4, g, nth s.nm k, at_, t.v, t.m.g, false, t.ok⟩ : Ev) _ H6.out.lw (by have := OK.out.tn; show s.tr.length ≤ _; omega))
     unfold En.evv En.evc at NO
     clear K6
     go_wp2_with fail
     refine NO.out.mono ?_
     rintro r w7 ⟨rfl, col7, h7, t7⟩
     obtain ⟨C7, B7, FB7, hd7, pa7, pc7, oa7, oc7, bs7, Fs7, cs7, ta7, tc7, h7⟩ := h7
     have T7 := hide (T6.out.trans t7)
     have G7 := hide (t7.heap G6.out D5.out)
     have D7 : Hid (col7 Gb = 7) := (t7.old _ (heap_lt G6.out) (by rw [D5.out]; omega)).trans D5.out
     have V7 := hide (t7.heap V6.out C5.out)
     have C7' : Hid (col7 Eb = 7) := (t7.old _ (heap_lt V6.out) (by rw [C5.out]; omega)).trans C5.out
     have E7 := hide (t7.heap E6.out F5.out)
     have F7 : Hid (col7 w.heap.size = 7) := (t7.old _ (heap_lt E6.out) (by rw [F5.out]; omega)).trans F5.out
     have y6 := cell_of h7.hp 6
     simp [rcs] at y6
     have GO := hide (Cr.rturn00 B7 FB7 s.cr K g w7 h7.cr OK.out.cb (by omega))
     have H7 := hide h7
     clear NO h7 t7 v0 v1 v2 v3 v4 v5 v6 v7 e0 e1 e2 e3 e4 e5 e6 e7 q2 q4 H5 H6 T6 G6 V6 E6 c0 c1 c2
     go_wp2_with fail
     refine GO.out.mono ?_
     rintro r w8 ⟨rfl, p8⟩
     obtain ⟨FB8, col8, h8, t8⟩ := H7.out.crew p8
     have H8 := hide h8
     have T8 := hide (T7.out.trans t8)
     have G8 := hide (t8.heap G7.out D7.out)
     have V8 := hide (t8.heap V7.out C7'.out)
     have E8 := hide (t8.heap E7.out F7.out)
     have x2 : w8.cell? ⟨Gb, 2, none⟩ = some (.bool t.wk) := cell_of G8.out 2
     rw [hw] at x2
     have x4 : w8.cell? ⟨Gb, 4, none⟩ = some (.int .i64 t.m.g) := cell_of G8.out 4
     have x5 : w8.cell? ⟨Gb, 5, none⟩ = some (.int .i64 t.m.c) := cell_of G8.out 5
     have x6 : w8.cell? ⟨Gb, 6, none⟩ = some (.int .i64 t.m.v) := cell_of G8.out 6
     have z2 : w8.cell? ⟨Eb, 2, none⟩ = some (.int .i64 (nth s.nm k)) := cell_of V8.out 2
     have s0 : w8.cell? ⟨w.heap.size, 0, none⟩ = some (.bool false) := cell_of E8.out 0
     have s2 : w8.cell? ⟨w.heap.size, 2, none⟩ = some (.int .i64 v) := cell_of E8.out 2
     have WK := hide (wake_any L N col8 _ (K + 1) (servV (⟨4, g, nth s.nm k, at_, t.v, t.m.g, false, t.ok⟩ : Ev) t) w8 H8.out.lw (Cr.Bn.ch OK.out.cb g 0 0 1 (by omega) (by omega)) (by omega) (by have := OK.out.tn; show (s.tr ++ _).length ≤ _; simp; omega) OK.out.md.2)
     unfold En.evv En.evc servV at WK
     clear GO h8 t8 p8 H7 T7 G7 V7 E7 G8 V8 E8 D7 C7' F7 y6
     go_wp2_with fail
     refine WK.out.mono ?_
     rintro r w9 ⟨rfl, col9, h9, t9⟩
     have H9 := hide h9
     have T9 := hide (T8.out.trans t9)
     clear h9 t9 WK
     go_wp2_with fail
     go_end0
     simp only [if_true] at hR
     subst hR
     exact ⟨rfl, col9, H9.out, T9.out⟩
   ·cases HSD.out
  ·rw [if_pos h0] at hR
   subst hR
   have h0' : (er != 0) = true := by simp [h0]
   have PN := hide (panics_any L N col4 _ g w4 H4.out.lw (by have := OK.out.tn; show s.tr.length ≤ _; omega))
   clear HR H4
   go_wp2_with fail
   refine PN.out.mono ?_
   rintro r w5 ⟨rfl, col5, h5, t5⟩
   have H5 := hide h5
   have T5 := hide (T4.out.trans t5)
   clear h5 t5 PN
   go_wp2_with fail
   exact bodyPost_ret (results_none rfl _ _ _) rfl ⟨rfl, col5, H5.out, T5.out⟩
end Rlo
end Go.Proofs.YtblfimobiibmjabGreat
namespace Go.Proofs.YtblfimobiibmjabGreat
open Go.ChangeShapes Go.WideShapes Go.ChangeAt Go.RowKit
namespace Pi
open Ba Pe
end Pi
end Go.Proofs.YtblfimobiibmjabGreat
namespace Go.Proofs.YtblfimobiibmjabGreat
open Go.ChangeShapes Go.WideShapes Go.ChangeAt Go.RowKit
namespace Lo
open Ba
theorem nm_at {α : Type} {l : List (Option α)} {k : Nat} {o : Option α} (h : l[k]? = some o) : Fk.nmB l (k : Int) = o := by
 have hl : k < l.length := (List.getElem?_eq_some_iff.1 h).1
 unfold Fk.nmB
 rw [if_neg (by omega), Int.toNat_natCast, h]
 rfl
section
variable {w : World} {col : Nat → Nat} {L N C B X : Nat} {FB : Nat → Prop} {pa : Option Addr} {pc : Nat} {bs : List (Option Nat)} {Fs : Nat → Nat → Prop} {ta : Option Addr} {tc : Nat} {s : Lm}
end
end Lo
end Go.Proofs.YtblfimobiibmjabGreat
namespace Go.Proofs.YtblfimobiibmjabGreat
open Go.ChangeShapes Go.WideShapes Go.ChangeAt Go.RowKit
namespace Fk
open Ba Pe _root_.Go.Proofs.YtblfimobiibmjabGreat.Pi Rp
theorem CaAt.kf {w w' : World} {F : Nat → Prop} {oa : Option Addr} {l : List Ca} (h : CaAt w oa l) (k : KF F w w') (hn : ∀ a, oa = some a → ¬ F a.block) : CaAt w' oa l := by
 intro j x hx
 obtain ⟨b, off, e, h0, h1, h2⟩ := h j x hx
 exact ⟨b, off, e, k.cell h0 (hn _ e), k.cell h1 (hn _ e), k.cell h2 (hn _ e)⟩
end Fk
end Go.Proofs.YtblfimobiibmjabGreat
namespace Go.Proofs.YtblfimobiibmjabGreat
open Go.ChangeShapes Go.WideShapes Go.ChangeAt Go.RowKit
namespace Lo
open Ba
theorem ca_at {w : World} {oc : Option Addr} {cs : List De.Cs} (h : De.CAt w oc cs) : Fk.CaAt w oc (cs.map cav) := by
 intro k x hk
 rw [List.getElem?_map] at hk
 cases h1 : cs[k]? with
 | none => rw [h1] at hk; cases hk
 | some c =>
   rw [h1] at hk
   cases hk
   exact h k c h1
theorem Ok.draw {K : Nat} {s : Lm} (h : Ok K s) (n : Int) : Ok K { s with d := Pk.dr s.d n } := ⟨h.cb, h.tn, h.sm, h.wl, h.md, fun x hx => h.dd x (Pk.dr_sub hx)⟩
theorem dv_nat {d : List Int} {n : Nat} (hd : ∀ x ∈ d, 0 ≤ x) (h0 : 0 < n) (h4 : n ≤ 4) : ∃ i : Nat, Pk.dv d (n : Int) = (i : Int) ∧ i < n := by
 unfold Pk.dv
 rw [if_neg (by omega)]
 by_cases h1 : (n : Int) = 1
 ·rw [if_pos h1]
  exact ⟨0, rfl, h0⟩
 ·rw [if_neg h1]
  have hn : (0 : Int) < n := by omega
  have hx : 0 ≤ nth d 0 := by
   cases d with
   | nil => simp [nth]
   | cons x d => exact hd x (by simp)
  refine ⟨(nth d 0 % (n : Int)).toNat, ?_, ?_⟩
  ·have := Int.emod_nonneg (nth d 0) (by omega : (n : Int) ≠ 0)
   omega
  ·have := Int.emod_lt_of_pos (nth d 0) hn
   have := Int.emod_nonneg (nth d 0) (by omega : (n : Int) ≠ 0)
   omega
end Lo
end Go.Proofs.YtblfimobiibmjabGreat
namespace Go.Proofs.YtblfimobiibmjabGreat
namespace Lo
open Ba
theorem op_ok {o : OpD} {n : Int} (h : De.chk o n = 0) : (1 ≤ n ∧ n ≤ 8) ∧ (1 ≤ o.kind ∧ o.kind ≤ 9) ∧ o.cases.length ≤ 4 ∧ (0 ≤ o.a ∧ o.a ≤ De.mA o.kind n) ∧ (0 ≤ o.b ∧ o.b ≤ De.mB o.kind) ∧ (o.kind ≠ 6 → o.def_ = false ∧ o.cases.length = 0) ∧ ∀ c ∈ o.cases, (0 ≤ c.ch ∧ c.ch ≤ 7) ∧ 0 ≤ c.val ∧ c.val ≤ 99 := by
 unfold De.chk at h
 split at h
 ·omega
 ·rename_i h1
  split at h
  ·omega
  ·rename_i h2
   split at h
   ·omega
   ·rename_i h3
    split at h
    ·omega
    ·rename_i h4
     split at h
     ·rename_i h5
      simp only [De.okP, De.upB, Bool.not_eq_false, Bool.and_eq_true, decide_eq_true_eq] at h1 h3
      refine ⟨h1.1, h1.2, by omega, h3.1, h3.2, fun hk => ?_, fun c hc => ?_⟩
      ·have h6 : (o.def_ || decide (0 < o.cases.length)) ≠ true := fun e => h4 ⟨hk, e⟩
       simp at h6
       exact ⟨h6.1, by simp [h6.2]⟩
      ·have := List.all_eq_true.1 h5 c hc
       simp only [De.okC, De.upB, Bool.and_eq_true, decide_eq_true_eq] at this
       refine ⟨this.1, this.2.1, ?_⟩
       have h7 := this.2.2
       cases hs : c.send <;> rw [hs] at h7 <;> simp only [cond_true, cond_false] at h7 <;> omega
     ·omega
def SB (n m : Nat) (sts : List (Option St)) : Prop := ∀ (i : Nat) (st : St), sts[i]? = some (some st) → (st.sent ≤ n ∧ st.got ≤ n) ∧ st.snd.length ≤ m ∧ st.rcv.length ≤ m
theorem SB.mono {n m n' m' : Nat} {sts : List (Option St)} (h : SB n m sts) (h1 : n ≤ n') (h2 : m ≤ m') : SB n' m' sts := fun i st e => by
 have := h i st e
 omega
theorem SB.set {n m k : Nat} {sts : List (Option St)} {v : St} (h : SB n m sts) (hv : (v.sent ≤ n ∧ v.got ≤ n) ∧ v.snd.length ≤ m ∧ v.rcv.length ≤ m) : SB n m (sts.set k (some v)) := by
 intro i st e
 rw [List.getElem?_set] at e
 split at e
 ·split at e
  ·simp at e
   subst e
   exact hv
  ·cases e
 ·exact h i st e
theorem SB.nm {n m : Nat} {sts : List (Option St)} (h : SB n m sts) {c : Int} {st : St} (e : Fk.nmB sts c = some st) : (st.sent ≤ n ∧ st.got ≤ n) ∧ st.snd.length ≤ m ∧ st.rcv.length ≤ m := h _ st (Fk.nmB_at e)
theorem dr_le (g : Int) (l : List Wt) : (Pe.dr g l).length ≤ l.length := by
 unfold Pe.dr
 exact List.length_filter_le _ _
theorem al_le (l : List Wt) (x : Wt) : (Pe.al l x).length ≤ l.length + 1 := by
 unfold Pe.al
 split
 ·split
  ·omega
  ·simp
 ·omega
theorem SB.send {n m : Nat} {st : St} (x : Int) (h : (st.sent ≤ n ∧ st.got ≤ n) ∧ st.snd.length ≤ m ∧ st.rcv.length ≤ m) : let v := _root_.Go.Proofs.YtblfimobiibmjabGreat.Pi.sendS st x; (v.sent ≤ n + 1 ∧ v.got ≤ n + 1) ∧ v.snd.length ≤ m ∧ v.rcv.length ≤ m := by
 intro v
 simp only [v, _root_.Go.Proofs.YtblfimobiibmjabGreat.Pi.sendS]
 split
 ·omega
 ·split
  ·rename_i e
   rw [e] at h
   simp at h ⊢
   omega
  ·rename_i e
   split
   ·rw [e] at h
    refine ⟨?_, ?_⟩
    ·simp only
     omega
    ·simp only
     rw [e]
     exact h.2
   ·omega
theorem SB.recv {n m : Nat} {st : St} (h : (st.sent ≤ n ∧ st.got ≤ n) ∧ st.snd.length ≤ m ∧ st.rcv.length ≤ m) : let v := _root_.Go.Proofs.YtblfimobiibmjabGreat.Pi.recvS st; (v.sent ≤ n + 1 ∧ v.got ≤ n + 1) ∧ v.snd.length ≤ m ∧ v.rcv.length ≤ m := by
 intro v
 simp only [v, _root_.Go.Proofs.YtblfimobiibmjabGreat.Pi.recvS]
 split
 ·omega
 ·rename_i e1 e2
  rw [e2] at h
  simp at h ⊢
  omega
 ·simp
  omega
 ·rename_i e1 e2
  rw [e2] at h
  simp at h ⊢
  omega
theorem SB.try {n m : Nat} {sts : List (Option St)} (h : SB n m sts) (c : Ca) : SB (n + 1) m (Fk.tryS sts c) := by
 unfold Fk.tryS
 split
 ·exact h.mono (by omega) (Nat.le_refl _)
 ·rename_i st e
  refine (h.mono (Nat.le_succ n) (Nat.le_refl _)).set ?_
  cases c.sd
  ·exact SB.recv (h.nm e)
  ·exact SB.send _ (h.nm e)
theorem SB.waitS {n m : Nat} {st : St} (send : Bool) (x : Wt) (h : (st.sent ≤ n ∧ st.got ≤ n) ∧ st.snd.length ≤ m ∧ st.rcv.length ≤ m) : let v := _root_.Go.Proofs.YtblfimobiibmjabGreat.Pi.waitS st send x; (v.sent ≤ n ∧ v.got ≤ n) ∧ v.snd.length ≤ m + 1 ∧ v.rcv.length ≤ m + 1 := by
 intro v
 simp only [v, _root_.Go.Proofs.YtblfimobiibmjabGreat.Pi.waitS]
 split
 ·omega
 ·split
  ·have := al_le st.snd x
   simp only
   omega
  ·have := al_le st.rcv x
   simp only
   omega
theorem SB.wait1 {n m : Nat} {sts : List (Option St)} (h : SB n m sts) (c : Ca) (g : Int) : SB n (m + 1) (Lo.waitN sts c g) := by
 unfold Lo.waitN
 split
 ·exact h.mono (Nat.le_refl _) (by omega)
 ·rename_i st e
  exact (h.mono (Nat.le_refl _) (Nat.le_succ m)).set (SB.waitS _ _ (h.nm e))
theorem SB.leave {n m : Nat} {sts : List (Option St)} (h : SB n m sts) (g : Int) : SB n m (Fk.leaveS g sts) := by
 intro i st e
 unfold Fk.leaveS at e
 rw [List.getElem?_map] at e
 cases h1 : sts[i]? with
 | none => rw [h1] at e; cases e
 | some o =>
   rw [h1] at e
   cases o with
   | none => simp [Fk.dropO] at e
   | some st1 =>
     simp [Fk.dropO] at e
     subst e
     have := h i st1 h1
     have := dr_le g st1.snd
     have := dr_le g st1.rcv
     simp only [_root_.Go.Proofs.YtblfimobiibmjabGreat.Pi.dropS]
     omega
theorem SB.pkS {n m : Nat} {sts : List (Option St)} (h : SB n m sts) (g : Int) (l : List Ca) : ∀ k, SB n (m + k) (Fk.pkS g l sts k)
 | 0 => h
 | k + 1 => by
   have ih := SB.pkS h g l k
   unfold Fk.pkS
   split
   ·exact ih.mono (Nat.le_refl _) (by omega)
   ·unfold Fk.pk1
    split
    ·exact ih.mono (Nat.le_refl _) (by omega)
    ·rename_i st e
     exact (ih.mono (Nat.le_refl _) (Nat.le_succ _)).set (SB.waitS _ _ (ih.nm e))
theorem SB.pkA {n m : Nat} {sts : List (Option St)} (h : SB n m sts) (g : Int) (l : List Ca) (hl : l.length ≤ 4) : SB n (m + 4) (Fk.pkA g l sts) := by
 unfold Fk.pkA
 split
 ·exact h.mono (Nat.le_refl _) (by omega)
 ·split
  ·exact h.mono (Nat.le_refl _) (by omega)
  ·exact (SB.pkS h g l _).mono (Nat.le_refl _) (by omega)
end Lo
end Go.Proofs.YtblfimobiibmjabGreat
namespace Go.Proofs.YtblfimobiibmjabGreat
open Go.ChangeShapes Go.WideShapes Go.ChangeAt Go.RowKit
namespace Lo
open Ba
section
variable {w w' : World} {col : Nat → Nat} {L N C B X : Nat} {FB : Nat → Prop} {pa : Option Addr} {pc : Nat} {bs : List (Option Nat)} {Fs : Nat → Nat → Prop} {ta : Option Addr} {tc : Nat} {s : Lm}
def WA (w : World) (col : Nat → Nat) (oa : Option Addr) (l : List Wt) : Prop := Pe.WAt w oa l ∧ (0 < l.length → ∀ a, oa = some a → col a.block = 7)
end
theorem wakeAll_app (g c : Int) (s : Lm) (l : List Wt) (x : Wt) : wakeAll g c s (l ++ [x]) = if parked (wakeAll g c s l) x.g then wakesS (wakeAll g c s l) ⟨7, x.g, c, x.c, 0, g, false, false⟩ else wakeAll g c s l := by
 induction l generalizing s with
 | nil => rfl
 | cons y l ih => exact ih _
theorem wakeAll_take {g c : Int} {s : Lm} {l : List Wt} {j : Nat} {x : Wt} (h : l[j]? = some x) : wakeAll g c s (l.take (j + 1)) = if parked (wakeAll g c s (l.take j)) x.g then wakesS (wakeAll g c s (l.take j)) ⟨7, x.g, c, x.c, 0, g, false, false⟩ else wakeAll g c s (l.take j) := by
 rw [List.take_add_one, h]
 exact wakeAll_app g c s _ x
structure Bw (K : Nat) (s : Lm) : Prop where
 cb : Cr.Bn K s.cr
 tn : s.tr.length ≤ K
theorem Bw.wake {K : Nat} {s : Lm} (h : Bw K s) (e : Ev) : Bw (K + 1) (wakesS s e) := ⟨Cr.Bn.ch h.cb e.g 1 0 1 (by omega) (by omega), by show (s.tr ++ [e]).length ≤ _; have := h.tn; simp; omega⟩
theorem Bw.go {K : Nat} {s : Lm} (h : Bw K s) (e : Ev) : Bw (K + 1) (goS s e) := ⟨Cr.Bn.ch h.cb e.g 0 0 1 (by omega) (by omega), by show (s.tr ++ [e]).length ≤ _; have := h.tn; simp; omega⟩
theorem Bw.mono {K M : Nat} {s : Lm} (h : Bw K s) (hK : K ≤ M) : Bw M s := ⟨h.cb.mono hK, Nat.le_trans h.tn hK⟩
theorem Bw.all {K : Nat} {g c : Int} : ∀ {l : List Wt} {s : Lm}, Bw K s → Bw (K + l.length) (wakeAll g c s l) := by
 intro l
 induction l generalizing K with
 | nil => exact fun h => h
 | cons x l ih =>
   intro s h
   show Bw _ (wakeAll g c (if parked s x.g then _ else s) l)
   rw [List.length_cons, Nat.add_comm l.length 1, ← Nat.add_assoc]
   apply ih
   split
   ·exact h.wake _
   ·exact h.mono (by omega)
theorem first_take {s : Lm} {l : List Wt} : ∀ {j : Nat}, (∀ i x, i < j → l[i]? = some x → parked s x.g = false) → first s l = first s (l.drop j) := by
 intro j
 induction j generalizing l with
 | zero => intro _; rfl
 | succ j ih =>
   intro h
   cases l with
   | nil => rfl
   | cons x l =>
     have h0 := h 0 x (by omega) rfl
     show (if parked s x.g then x.g else first s l) = _
     rw [h0]
     exact ih (fun i y hi hy => h (i + 1) y (by omega) hy)
end Lo
end Go.Proofs.YtblfimobiibmjabGreat
namespace Go.Proofs.YtblfimobiibmjabGreat
namespace Lo
open Ba
def SP (s s' : Lm) : Prop := ∃ e l, s'.tr = s.tr ++ e :: l
end Lo
end Go.Proofs.YtblfimobiibmjabGreat
namespace Go.Proofs.YtblfimobiibmjabGreat
namespace Lo
open Ba
structure B1 (m K n M C D : Nat) (s : Lm) : Prop where
 bw : Bw K s
 cp : ∀ x ∈ s.cr, 0 ≤ x.p ∧ x.p < m
 cl : s.cr.length ≤ C
 sb : SB n M s.sts
 sl : s.sts.length = 8
 nl : s.nm.length = 8
 md : 0 ≤ s.md ∧ s.md ≤ D
section
variable {m K n M C D : Nat} {s : Lm}
theorem B1.mono {K' n' M' C' D' : Nat} (h : B1 m K n M C D s) (h1 : K ≤ K') (h2 : n ≤ n') (h3 : M ≤ M') (h4 : C ≤ C') (h5 : D ≤ D') : B1 m K' n' M' C' D' s :=
 ⟨h.bw.mono h1, h.cp, Nat.le_trans h.cl h4, h.sb.mono h2 h3, h.sl, h.nl, by have := h.md; omega⟩
theorem ch_cp {l : List Mb} (h : ∀ x ∈ l, 0 ≤ x.p ∧ x.p < (m : Int)) (g a b d : Int) : ∀ x ∈ Cr.chL l g a b d, 0 ≤ x.p ∧ x.p < (m : Int) := by
 unfold Cr.chL
 split
 ·exact h
 ·rename_i y hy
  split
  ·intro x hx
   obtain ⟨k, rfl, hk, hk2⟩ := Cr.gt_some hy
   rcases List.mem_or_eq_of_mem_set hx with q | q
   ·exact h x q
   ·rw [q]
    exact h y (List.mem_of_getElem? hk2)
  ·exact h
theorem ch_len (l : List Mb) (g a b d : Int) : (Cr.chL l g a b d).length = l.length := by
 unfold Cr.chL
 split
 ·rfl
 ·split <;> simp
theorem B1.tell (h : B1 m K n M C D s) (e : Ev) : B1 m (K + 1) n M C D (tellS s e) :=
 ⟨⟨h.bw.cb.mono (by omega), by show (s.tr ++ [e]).length ≤ _; have := h.bw.tn; simp; omega⟩, h.cp, h.cl, h.sb, h.sl, h.nl, h.md⟩
theorem B1.ch (h : B1 m K n M C D s) (e : Ev) (a b d : Int) (hb : 0 ≤ b ∧ b ≤ 2) (hd : 0 ≤ d ∧ d ≤ 1) : B1 m (K + 1) n M C D (tellS { s with cr := Cr.chL s.cr e.g a b d } e) :=
 ⟨⟨Cr.Bn.ch h.bw.cb e.g a b d hb hd, by show (s.tr ++ [e]).length ≤ _; have := h.bw.tn; simp; omega⟩, ch_cp h.cp _ _ _ _, by show (Cr.chL s.cr e.g a b d).length ≤ _; rw [ch_len]; exact h.cl, h.sb, h.sl, h.nl, h.md⟩
theorem B1.sts {n' M' : Nat} {sts : List (Option St)} (h : B1 m K n M C D s) (hs : SB n' M' sts) (hl : sts.length = s.sts.length) : B1 m K n' M' C D { s with sts := sts } :=
 ⟨⟨h.bw.cb, h.bw.tn⟩, h.cp, h.cl, hs, hl.trans h.sl, h.nl, h.md⟩
theorem B1.go (h : B1 m K n M C D s) (e : Ev) : B1 m (K + 1) n M C D (goS s e) := h.ch e 0 0 1 (by omega) (by omega)
theorem B1.waits (h : B1 m K n M C D s) (e : Ev) : B1 m (K + 1) n M C D (waitsS s e) := h.ch e 0 1 0 (by omega) (by omega)
theorem B1.wakes (h : B1 m K n M C D s) (e : Ev) : B1 m (K + 1) n M C D (wakesS s e) :=
 (h.sts (h.sb.leave e.g) (by unfold Fk.leaveS; simp)).ch e 1 0 1 (by omega) (by omega)
theorem try_len (sts : List (Option St)) (c : Ca) : (Fk.tryS sts c).length = sts.length := by
 unfold Fk.tryS
 split <;> simp
theorem B1.try (h : B1 m K n M C D s) (g at_ : Int) (c : Ca) : B1 m (K + 2) (n + 1) M C D (tryF s g at_ c).s := by
 have h1 := h.sts (h.sb.try c) (try_len _ _)
 unfold tryF
 split
 ·exact h1.mono (by omega) (by omega) (by omega) (by omega) (by omega)
 ·split
  ·exact (h1.go _).wakes _
  ·exact (h1.go _).mono (by omega) (by omega) (by omega) (by omega) (by omega)
theorem wait_len (sts : List (Option St)) (c : Ca) (g : Int) : (waitN sts c g).length = sts.length := by
 unfold waitN
 split <;> simp
theorem B1.alone (h : B1 m K n M C D s) (g : Int) (c : Ca) : B1 m (K + 3) (n + 1) (M + 1) C D (aloneF s g c).s := by
 have h1 := h.try g (-1) c
 unfold aloneF
 split
 ·exact h1.mono (by omega) (by omega) (by omega) (by omega) (by omega)
 ·exact (h1.sts (h1.sb.wait1 c g) (wait_len _ _ _)).waits _
theorem pkS_len (g : Int) (l : List Ca) (sts : List (Option St)) : ∀ k, (Fk.pkS g l sts k).length = sts.length
 | 0 => rfl
 | k + 1 => by
   unfold Fk.pkS
   split
   ·exact pkS_len g l sts k
   ·unfold Fk.pk1
    split
    ·exact pkS_len g l sts k
    ·rw [List.length_set]
     exact pkS_len g l sts k
theorem pkA_len (g : Int) (l : List Ca) (sts : List (Option St)) : (Fk.pkA g l sts).length = sts.length := by
 unfold Fk.pkA
 split
 ·rfl
 ·split
  ·rfl
  ·exact pkS_len _ _ _ _
theorem B1.choose (h : B1 m K n M C D s) (g : Int) (o : OpD) (h4 : o.cases.length ≤ 4) : B1 m (K + 3) (n + 1) (M + 4) C D (chooseF s g o).s := by
 unfold chooseF
 split
 ·have h1 : B1 m K n M C D { s with d := Pk.dr s.d (Fk.rdyL (cas o) s.sts).length } := ⟨⟨h.bw.cb, h.bw.tn⟩, h.cp, h.cl, h.sb, h.sl, h.nl, h.md⟩
  exact (h1.try _ _ _).mono (by omega) (by omega) (by omega) (by omega) (by omega)
 ·split
  ·exact (h.go _).mono (by omega) (by omega) (by omega) (by omega) (by omega)
  ·exact ((h.sts (h.sb.pkA g (cas o) (by unfold cas; rw [List.length_map]; exact h4)) (pkA_len _ _ _)).waits _).mono (by omega) (by omega) (by omega) (by omega) (by omega)
theorem B1.all (g c : Int) : ∀ (l : List Wt) {K : Nat} {s : Lm}, B1 m K n M C D s → B1 m (K + l.length) n M C D (wakeAll g c s l)
 | [], K, s, h => h
 | x :: l, K, s, h => by
   show B1 m _ n M C D (wakeAll g c (if parked s x.g then _ else s) l)
   rw [List.length_cons, Nat.add_comm l.length 1, ← Nat.add_assoc]
   apply B1.all g c l
   split
   ·exact h.wakes _
   ·exact h.mono (by omega) (by omega) (by omega) (by omega) (by omega)
theorem B1.closes (h : B1 m K n M C D s) (g k : Int) : B1 m (K + 1 + M) n M C D (closesF s g k).s := by
 unfold closesF
 split
 ·exact h.mono (by omega) (by omega) (by omega) (by omega) (by omega)
 ·rename_i st e
  split
  ·exact h.mono (by omega) (by omega) (by omega) (by omega) (by omega)
  ·rename_i hc
   have hs := h.sb.nm e
   have h1 : B1 m K n M C D { s with sts := s.sts.set k.toNat (some (_root_.Go.Proofs.YtblfimobiibmjabGreat.Pi.closeS st)) } := h.sts (h.sb.set (by unfold _root_.Go.Proofs.YtblfimobiibmjabGreat.Pi.closeS; rw [if_neg hc]; simp; omega)) (by simp)
   exact (B1.all _ _ _ (h1.go _)).mono (by omega) (by omega) (by omega) (by omega) (by omega)
theorem B1.panic (h : B1 m K n M C D s) (g : Int) : B1 m (K + 1) n M C D (panicS s g) := by
 have h1 : B1 m K n M C D { s with pk := true } := ⟨⟨h.bw.cb, h.bw.tn⟩, h.cp, h.cl, h.sb, h.sl, h.nl, h.md⟩
 exact h1.tell _
theorem B1.do_ (h : B1 m K n M C D s) (g : Int) (o : OpD) (ho : De.chk o (m : Int) = 0) : B1 m (K + 4 + M) (n + 1) (M + 4) (C + 1) (D + 1) (doF s g o) := by
 obtain ⟨-, hk, h4, ha, hb, -, hcs⟩ := op_ok ho
 unfold doF
 split
 ·rename_i h1
  rw [h1] at ha
  simp [De.mA] at ha
  have hsp : B1 m K n M (C + 1) D { s with cr := Cr.spL s.cr o.a } := by
   refine ⟨⟨Cr.Bn.sp h.bw.cb _, h.bw.tn⟩, ?_, ?_, h.sb, h.sl, h.nl, h.md⟩
   ·show ∀ x ∈ Cr.spL s.cr o.a, _
    unfold Cr.spL
    rw [if_neg (by omega)]
    split
    ·exact h.cp
    ·intro x hx
     rw [List.mem_append] at hx
     rcases hx with q | q
     ·exact h.cp x q
     ·simp at q
      rw [q]
      simp
      omega
   ·show (Cr.spL s.cr o.a).length ≤ _
    have := h.cl
    unfold Cr.spL
    split
    ·omega
    ·split
     ·omega
     ·simp; omega
  exact (hsp.go _).mono (by omega) (by omega) (by omega) (by omega) (by omega)
 ·split
  ·have hop : B1 m K n M C (D + 1) (opensS s o.a o.b) := by
    refine ⟨⟨h.bw.cb, h.bw.tn⟩, h.cp, h.cl, h.sb.set (by simp [_root_.Go.Proofs.YtblfimobiibmjabGreat.Pi.st0]), ?_, ?_, ?_⟩
    ·show (s.sts.set _ _).length = 8
     rw [List.length_set]
     exact h.sl
    ·show (s.nm.set _ _).length = 8
     rw [List.length_set]
     exact h.nl
    ·show 0 ≤ s.md + 1 ∧ s.md + 1 ≤ ((D + 1 : Nat) : Int)
     have := h.md
     omega
   exact (hop.go _).mono (by omega) (by omega) (by omega) (by omega) (by omega)
  ·split
   ·exact (h.go _).mono (by omega) (by omega) (by omega) (by omega) (by omega)
   ·split
    ·exact (h.go _).mono (by omega) (by omega) (by omega) (by omega) (by omega)
    ·split
     ·exact (h.ch (bareE 11 g) 0 2 0 (by omega) (by omega)).mono (by omega) (by omega) (by omega) (by omega) (by omega)
     ·split
      ·split
       ·exact (h.alone _ _).mono (by omega) (by omega) (by omega) (by omega) (by omega)
       ·exact ((h.alone _ _).panic _).mono (by omega) (by omega) (by omega) (by omega) (by omega)
      ·split
       ·exact (h.alone _ _).mono (by omega) (by omega) (by omega) (by omega) (by omega)
       ·split
        ·split
         ·exact (h.closes _ _).mono (by omega) (by omega) (by omega) (by omega) (by omega)
         ·exact ((h.closes _ _).panic _).mono (by omega) (by omega) (by omega) (by omega) (by omega)
        ·split
         ·split
          ·exact (h.choose _ _ h4).mono (by omega) (by omega) (by omega) (by omega) (by omega)
          ·exact ((h.choose _ _ h4).panic _).mono (by omega) (by omega) (by omega) (by omega) (by omega)
         ·exact h.mono (by omega) (by omega) (by omega) (by omega) (by omega)
end
end Lo
end Go.Proofs.YtblfimobiibmjabGreat
