import Derived.Test.YtddchcekljndmaaGreatZjLr7
import Derived.Deep.RegionHeld3
import Derived.Deep.RegionWith
/- The reference's loom: its channels by the names, there and back; an event more. -/
namespace Go.Proofs.YtddchcekljndmaaGreat
open Go.ChangeShapes Go.WideShapes Go.ChangeAt Go.RowKit
namespace Rlo
open Ba Lo

/-- the footprint of what a name is -/
def Fv (nm : List Int) (Fs : Nat → Nat → Prop) : Nat → Nat → Prop := fun i x => i < 8 ∧ 0 ≤ nth nm i ∧ Fs (nth nm i).toNat x
theorem fv_at {nm : List Int} {Fs : Nat → Nat → Prop} {i : Nat} (h : i < 8) (h0 : 0 ≤ nth nm i) : Fv nm Fs i = Fs (nth nm i).toNat := by
  funext x
  simp [Fv, h, h0]
/-- back: a channel with a name has what the name has, any other has what it had -/
def Fb (nm : List Int) (Gs Fs : Nat → Nat → Prop) : Nat → Nat → Prop := fun j x => (∃ i, i < 8 ∧ 0 ≤ nth nm i ∧ (nth nm i).toNat = j ∧ Gs i x) ∨ ((∀ i, i < 8 → 0 ≤ nth nm i → (nth nm i).toNat ≠ j) ∧ Fs j x)
theorem NI.same {nm : List Int} {k i j : Nat} (h : NI nm k) (hi : i < 8) (hj : j < 8) (h0 : 0 ≤ nth nm i) (h1 : 0 ≤ nth nm j) (e : (nth nm i).toNat = (nth nm j).toNat) : i = j := h.inj i j hi hj h0 (by omega)
theorem fb_at {nm : List Int} {k i : Nat} {Gs Fs : Nat → Nat → Prop} (h : NI nm k) (hi : i < 8) (h0 : 0 ≤ nth nm i) : Fb nm Gs Fs (nth nm i).toNat = Gs i := by
  funext x
  apply propext
  constructor
  · rintro (⟨j, hj, h1, e, g⟩ | ⟨n, _⟩)
    · obtain rfl := h.same hj hi h1 h0 e
      exact g
    · exact absurd rfl (n i hi h0)
  · intro g
    exact .inl ⟨i, hi, h0, rfl, g⟩
theorem fb_no {nm : List Int} {j : Nat} {Gs Fs : Nat → Nat → Prop} (h : ∀ i, i < 8 → 0 ≤ nth nm i → (nth nm i).toNat ≠ j) : Fb nm Gs Fs j = Fs j := by
  funext x
  apply propext
  constructor
  · rintro (⟨i, hi, h1, e, g⟩ | ⟨_, g⟩)
    · exact absurd e (h i hi h1)
    · exact g
  · intro g
    exact .inr ⟨h, g⟩
/-- who is called that? -/
def fi (nm : List Int) (j : Nat) : Option Nat := (List.range 8).find? fun i => nth nm i == (j : Int)
theorem fi_at {nm : List Int} {k i : Nat} (h : NI nm k) (hi : i < 8) (h0 : 0 ≤ nth nm i) : fi nm (nth nm i).toNat = some i := by
  have e : (((nth nm i).toNat : Nat) : Int) = nth nm i := by omega
  unfold fi
  rw [e]
  cases hf : (List.range 8).find? fun j => nth nm j == nth nm i with
  | none =>
    rw [List.find?_eq_none] at hf
    have := hf i (List.mem_range.2 hi)
    simp at this
  | some j =>
    have h1 := List.find?_some hf
    have h2 := List.mem_of_find?_eq_some hf
    rw [List.mem_range] at h2
    simp at h1
    rw [h.inj i j hi h2 h0 h1.symm]
theorem fi_no {nm : List Int} {j : Nat} (h : ∀ i, i < 8 → 0 ≤ nth nm i → (nth nm i).toNat ≠ j) : fi nm j = none := by
  unfold fi
  rw [List.find?_eq_none]
  intro i hi e
  rw [List.mem_range] at hi
  simp at e
  exact h i hi (by omega) (by omega)
/-- back: the channels' states -/
def cb (nm : List Int) (sts cs : List (Option St)) : List (Option St) := (List.range cs.length).map fun j => match fi nm j with
  | some i => (sts[i]?).join
  | none => (cs[j]?).join
theorem cb_len (nm : List Int) (sts cs : List (Option St)) : (cb nm sts cs).length = cs.length := by simp [cb]
theorem cb_at {nm : List Int} {sts cs : List (Option St)} {k i : Nat} (h : NI nm k) (hi : i < 8) (h0 : 0 ≤ nth nm i) (hl : (nth nm i).toNat < cs.length) : (cb nm sts cs)[(nth nm i).toNat]? = some (sts[i]?).join := by
  simp [cb, hl, fi_at h hi h0]
theorem cb_no {nm : List Int} {sts cs : List (Option St)} {j : Nat} (h : ∀ i, i < 8 → 0 ≤ nth nm i → (nth nm i).toNat ≠ j) (hl : j < cs.length) : (cb nm sts cs)[j]? = some (cs[j]?).join := by
  simp [cb, hl, fi_no h]
theorem join_some {α : Type} {o : Option α} {x : Option (Option α)} (h : x = some o) : x.join = o := by rw [h]; cases o <;> rfl
section
variable {w w' u : World} {col col' : Nat → Nat} {L N C B : Nat} {FB : Nat → Prop} {q : Hd} {pa : Option Addr} {pc : Nat} {oa : Option Addr} {oc : Nat} {bs : List (Option Nat)} {Fs : Nat → Nat → Prop} {cs : List (Option St)} {ta : Option Addr} {tc : Nat} {s : Lm} {K : Nat → Prop}
theorem RX.nl (h : RX w col L N C B FB q pa pc oa oc bs Fs cs ta tc s) {i : Nat} (hi : i < 8) (h0 : 0 ≤ nth s.nm i) : (nth s.nm i).toNat < bs.length := by
  have := h.ni.lt i hi
  omega
/-- a new row of pointers, by the names -/
theorem RX.view {ob : Option Addr} {d : Nat} (h : RX w col L N C B FB q pa pc oa oc bs Fs cs ta tc s) (hb : Below w.heap.size w u) (ho : u.ownsRow w.heap.size 126 1 (.slice ob (vw s.nm bs).length d) (vw s.nm bs).length ((vw s.nm bs).map Pe.pt)) :
    Fk.Qs Rp.Rr u ob (vw s.nm bs) (Fv s.nm Fs) s.sts := by
  have l8 : (vw s.nm bs).length = 8 := (vw_len _ _).trans h.ni.len
  have hq := h.qs.below Fk.frR hb
  refine ⟨(own_row ho).1, by rw [h.vs, vw_len, vw_len], fun i B1 hi => ?_, fun i hi => ?_, fun i j hij x h1 h2 => ?_, fun a e i h1 => ?_, fun i x hx => ?_⟩
  · have i8 : i < 8 := by have := (List.getElem?_eq_some_iff.1 hi).1; omega
    rw [vw_at (by rw [h.ni.len]; exact i8)] at hi
    by_cases h0 : nth s.nm i < 0
    · rw [if_pos h0] at hi
      cases hi
    · rw [if_neg h0] at hi
      have hg : bs[(nth s.nm i).toNat]? = some (some B1) := by
        have := List.getElem?_eq_getElem (h.nl i8 (by omega))
        rw [this] at hi ⊢
        rw [join_some rfl] at hi
        exact hi
      obtain ⟨st, e1, e2⟩ := hq.one _ B1 hg
      refine ⟨st, ?_, by rw [fv_at i8 (by omega)]; exact e2⟩
      rw [h.vs, vw_at (by rw [h.ni.len]; exact i8), if_neg h0, join_some e1]
  · have i8 : i < 8 := by have := (List.getElem?_eq_some_iff.1 hi).1; omega
    rw [vw_at (by rw [h.ni.len]; exact i8)] at hi
    rw [h.vs, vw_at (by rw [h.ni.len]; exact i8)]
    by_cases h0 : nth s.nm i < 0
    · rw [if_pos h0]
    · rw [if_neg h0] at hi ⊢
      have hg : bs[(nth s.nm i).toNat]? = some none := by
        have := List.getElem?_eq_getElem (h.nl i8 (by omega))
        rw [this] at hi ⊢
        rw [join_some rfl] at hi
        exact hi
      rw [join_some (hq.non _ hg)]
  · obtain ⟨i8, i0, f1⟩ := h1
    obtain ⟨j8, j0, f2⟩ := h2
    exact h.qs.ap _ _ (fun e => hij (h.ni.same i8 j8 i0 j0 e)) x f1 f2
  · obtain ⟨i8, i0, f1⟩ := h1
    have := h.qs.bd _ _ f1
    have := (Cr.own_blk ho a.block ((own_row ho).2 a e)).1
    omega
  · obtain ⟨i8, i0, f1⟩ := hx
    exact Nat.lt_of_lt_of_le (h.qs.bd _ _ f1) hb.size
/-- what the named channels do is what all do -/
theorem RX.back3 {ob : Option Addr} {Gs : Nat → Nat → Prop} {sts : List (Option St)} (h : RX w col L N C B FB q pa pc oa oc bs Fs cs ta tc s) (hb : Below w.heap.size w u) (nw : Fk.NwA Gs (Fv s.nm Fs) u) (r : Fk.Qs Rp.Rr w' ob (vw s.nm bs) Gs sts) (kf : KF (Fk.All (Fv s.nm Fs)) u w') :
    ∃ col', RX w' col' L N C B FB q pa pc oa oc bs (Fb s.nm Gs Fs) (cb s.nm sts cs) ta tc { s with sts := sts } ∧ Tq col col' w w' ∧ ∀ x, w.heap.size ≤ x → x < u.heap.size → col' x = 7 ∧ w'.heap[x]? = u.heap[x]? := by
  have sz : w.heap.size ≤ u.heap.size := hb.size
  have l8 : (vw s.nm bs).length = 8 := (vw_len _ _).trans h.ni.len
  have s8 : sts.length = 8 := r.len.symm.trans l8
  have cl : cs.length = bs.length := h.qs.len.symm
  have fvw : ∀ {x}, Fk.All (Fv s.nm Fs) x → ∃ j, Fs j x ∧ ∃ i, i < 8 ∧ 0 ≤ nth s.nm i ∧ (nth s.nm i).toNat = j := fun ⟨i, i8, i0, f⟩ => ⟨_, f, i, i8, i0, rfl⟩
  have fold : ∀ {i x}, Gs i x → x < u.heap.size → Fk.All (Fv s.nm Fs) x := fun {i x} g hx => by
    rcases nw i x g with z | z
    · exact z
    · omega
  obtain ⟨col', o, n, n7⟩ := ext_ex w col (Fk.All (Fb s.nm Gs Fs)) 4
  have c : Ch (fun c => c = 4) col col' w w' := ⟨kf.os.trans hb.os, kf.tape.trans hb.tape, kf.output.trans hb.output, Nat.le_trans sz kf.size, fun x hx hc => (kf.block x (by omega) (fun e => by
    obtain ⟨j, f, _⟩ := fvw e
    exact hc (h.c4 j x f))).trans (hb.block x hx), o⟩
  have qs : Fk.Qs Rp.Rr w' oa bs (Fb s.nm Gs Fs) (cb s.nm sts cs) := by
    refine ⟨(own_row (h.keepRw c (by simp))).1, by rw [cb_len]; exact h.qs.len, fun j B1 hj => ?_, fun j hj => ?_, fun i j hij x h1 h2 => ?_, fun a e i h1 => ?_, fun j x hx => ?_⟩
    · have jl := (List.getElem?_eq_some_iff.1 hj).1
      by_cases hn : ∃ i, i < 8 ∧ 0 ≤ nth s.nm i ∧ (nth s.nm i).toNat = j
      · obtain ⟨i, i8, i0, rfl⟩ := hn
        have hv : (vw s.nm bs)[i]? = some (some B1) := by rw [vw_at (by rw [h.ni.len]; exact i8), if_neg (by omega), join_some hj]
        obtain ⟨st, e1, e2⟩ := r.one i B1 hv
        exact ⟨st, by rw [cb_at h.ni i8 i0 (by omega), join_some e1], by rw [fb_at h.ni i8 i0]; exact e2⟩
      · have hn' : ∀ i, i < 8 → 0 ≤ nth s.nm i → (nth s.nm i).toNat ≠ j := fun i i8 i0 e => hn ⟨i, i8, i0, e⟩
        obtain ⟨st, e1, e2⟩ := h.qs.one j B1 hj
        refine ⟨st, by rw [cb_no hn' (by omega), join_some e1], ?_⟩
        rw [fb_no hn']
        refine Fk.frR.sm e2 fun x hx => ?_
        refine (kf.block x (Nat.lt_of_lt_of_le (h.qs.bd j x hx) sz) (fun e => ?_)).trans (hb.block x (h.qs.bd j x hx))
        obtain ⟨k, f, i, i8, i0, e⟩ := fvw e
        exact h.qs.ap k j (fun e2 => hn' i i8 i0 (e.trans e2)) x f hx
    · have jl := (List.getElem?_eq_some_iff.1 hj).1
      by_cases hn : ∃ i, i < 8 ∧ 0 ≤ nth s.nm i ∧ (nth s.nm i).toNat = j
      · obtain ⟨i, i8, i0, rfl⟩ := hn
        have hv : (vw s.nm bs)[i]? = some none := by rw [vw_at (by rw [h.ni.len]; exact i8), if_neg (by omega), join_some hj]
        rw [cb_at h.ni i8 i0 (by omega), join_some (r.non i hv)]
      · have hn' : ∀ i, i < 8 → 0 ≤ nth s.nm i → (nth s.nm i).toNat ≠ j := fun i i8 i0 e => hn ⟨i, i8, i0, e⟩
        rw [cb_no hn' (by omega), join_some (h.qs.non j hj)]
    · rcases h1 with ⟨a, a8, a0, rfl, g1⟩ | ⟨n1, f1⟩
      · rcases h2 with ⟨b, b8, b0, rfl, g2⟩ | ⟨n2, f2⟩
        · exact r.ap a b (fun e => hij (by rw [e])) x g1 g2
        · obtain ⟨k, f, i, i8, i0, e⟩ := fvw (fold g1 (Nat.lt_of_lt_of_le (h.qs.bd j x f2) sz))
          exact h.qs.ap k j (fun e2 => n2 i i8 i0 (e.trans e2)) x f f2
      · rcases h2 with ⟨b, b8, b0, rfl, g2⟩ | ⟨n2, f2⟩
        · obtain ⟨k, f, j, j8, j0, e⟩ := fvw (fold g2 (Nat.lt_of_lt_of_le (h.qs.bd i x f1) sz))
          exact h.qs.ap k i (fun e2 => n1 j j8 j0 (e.trans e2)) x f f1
        · exact h.qs.ap i j hij x f1 f2
    · have al := h.blk ((own_row h.rw).2 a e)
      rcases h1 with ⟨b, b8, b0, rfl, g2⟩ | ⟨n2, f2⟩
      · obtain ⟨k, f, _⟩ := fvw (fold g2 (Nat.lt_of_lt_of_le al sz))
        exact h.qs.nr a e k f
      · exact h.qs.nr a e i f2
    · rcases hx with ⟨b, b8, b0, rfl, g2⟩ | ⟨n2, f2⟩
      · exact r.bd b x g2
      · exact Nat.lt_of_lt_of_le (h.qs.bd j x f2) c.size
  have nal : ∀ x, w.heap.size ≤ x → x < u.heap.size → ¬ Fk.All (Fb s.nm Gs Fs) x := by
    rintro x h1 h2 ⟨j, ⟨b, b8, b0, rfl, g2⟩ | ⟨n2, f2⟩⟩
    · obtain ⟨k, f, _⟩ := fvw (fold g2 h2)
      have := h.qs.bd k x f
      omega
    · have := h.qs.bd j x f2
      omega
  refine ⟨col', ⟨h.keepHp c (by simp), h.keepPs c (by simp), h.keepCu c (by simp) (by simp), h.nc, h.keepCr c (by simp), h.keepRw c (by simp), qs, h.ni, h.md, ?_, h.keepTr c (by simp), h.k0 c, h.k1 c, h.k2 c, h.k3 c, fun i x hx => ?_, h.k5 c, h.k6 c⟩, tq_of c (fun _ (e : _ = _) => by omega), fun x h1 h2 => ⟨n7 x h1 (nal x h1 h2), kf.block x h2 (fun e => ?_)⟩⟩
  · show sts = vw s.nm (cb s.nm sts cs)
    apply List.ext_getElem?
    intro i
    by_cases i8 : i < 8
    · rw [vw_at (by rw [h.ni.len]; exact i8)]
      by_cases h0 : nth s.nm i < 0
      · rw [if_pos h0]
        exact r.non i (by rw [vw_at (by rw [h.ni.len]; exact i8), if_pos h0])
      · rw [if_neg h0, cb_at h.ni i8 (by omega) (by have := h.nl i8 (show 0 ≤ nth s.nm i by omega); omega), List.getElem?_eq_getElem (by omega), join_some rfl, join_some rfl]
    · rw [List.getElem?_eq_none (by omega), List.getElem?_eq_none (by rw [vw_len, h.ni.len]; omega)]
  · rcases Nat.lt_or_ge x w.heap.size with e | e
    · rcases hx with ⟨b, b8, b0, rfl, g2⟩ | ⟨n2, f2⟩
      · obtain ⟨k, f, _⟩ := fvw (fold g2 (Nat.lt_of_lt_of_le e sz))
        exact h.k4 c k x f
      · exact h.k4 c i x f2
    · exact n x e ⟨i, hx⟩
  · obtain ⟨k, f, _⟩ := fvw e
    have := h.qs.bd k x f
    omega
theorem RX.back {ob : Option Addr} {sts : List (Option St)} (h : RX w col L N C B FB q pa pc oa oc bs Fs cs ta tc s) (hb : Below w.heap.size w u) (r : Fk.Rz Rp.Rr u w' ob (vw s.nm bs) (Fv s.nm Fs) sts) :
    ∃ Fs' cs' col', RX w' col' L N C B FB q pa pc oa oc bs Fs' cs' ta tc { s with sts := sts } ∧ Tq col col' w w' ∧ ∀ x, w.heap.size ≤ x → x < u.heap.size → col' x = 7 ∧ w'.heap[x]? = u.heap[x]? := by
  obtain ⟨Gs, nw, r, kf⟩ := r
  obtain ⟨col', x⟩ := h.back3 hb nw r kf
  exact ⟨_, _, col', x⟩
/-- all channels have changed -/
theorem RX.all {cs' : List (Option St)} (h : RX w col L N C B FB q pa pc oa oc bs Fs cs ta tc s) (p : Fk.Rz Rp.Rr w w' oa bs Fs cs') : ∃ Fs' col', RX w' col' L N C B FB q pa pc oa oc bs Fs' cs' ta tc { s with sts := vw s.nm cs' } ∧ Tq col col' w w' := by
  obtain ⟨Fs', nw, r, kf⟩ := p
  obtain ⟨col', o, n, _⟩ := ext_ex w col (Fk.All Fs') 4
  have c : Ch (fun c => c = 4) col col' w w' := ⟨kf.os, kf.tape, kf.output, kf.size, fun x hx hc => kf.block x hx (fun e => by
    obtain ⟨i, e⟩ := e
    exact hc (h.c4 i x e)), o⟩
  refine ⟨Fs', col', ⟨h.keepHp c (by simp), h.keepPs c (by simp), h.keepCu c (by simp) (by simp), h.nc, h.keepCr c (by simp), h.keepRw c (by simp), r, h.ni, h.md, rfl, h.keepTr c (by simp), h.k0 c, h.k1 c, h.k2 c, h.k3 c, fun i x hx => ?_, h.k5 c, h.k6 c⟩, tq_of c (fun _ (e : _ = _) => by omega)⟩
  rcases Nat.lt_or_ge x w.heap.size with e | e
  · rcases nw i x hx with z | z
    · obtain ⟨j, z⟩ := z
      exact h.k4 c j x z
    · omega
  · exact n x e ⟨i, hx⟩
theorem vw_leave (g : Int) (nm : List Int) (cs : List (Option St)) : vw nm (Fk.leaveS g cs) = Fk.leaveS g (vw nm cs) := by
  simp only [vw, Fk.leaveS, List.map_map]
  apply List.map_congr_left
  intro n _
  simp only [Function.comp]
  split
  · rfl
  · rw [List.getElem?_map]
    cases cs[n.toNat]? with
    | none => rfl
    | some o => cases o <;> rfl
/-- colour 4 is only what the channels have -/
theorem RX.recol (h : RX w col L N C B FB q pa pc oa oc bs Fs cs ta tc s) : ∃ col', RX w col' L N C B FB q pa pc oa oc bs Fs cs ta tc s ∧ Tq col col' w w ∧ ∀ x, col x = 4 → ¬ Fk.All Fs x → col' x = 7 := by
  classical
  refine ⟨fun x => if col x = 4 ∧ ¬ Fk.All Fs x then 7 else col x, ⟨h.hp, h.ps, h.cu, h.nc, h.cr, h.rw, h.qs, h.ni, h.md, h.vs, h.tr, ?_, ?_, fun x hx => ?_, fun g e => ?_, fun i x hx => ?_, fun g e => ?_, fun x hx => ?_⟩, ⟨rfl, rfl, rfl, Nat.le_refl _, fun _ _ _ => rfl, fun x hx hc => if_neg (by omega)⟩, fun x h1 h2 => if_pos ⟨h1, h2⟩⟩
  · simp [h.c0]
  · simp [h.c1]
  · simp [h.c2 x hx]
  · simp [h.c3 g e]
  · have : Fk.All Fs x := ⟨i, hx⟩
    simp [this, h.c4 i x hx]
  · simp [h.c5 g e]
  · simp [h.c6 x hx]
/-- an event more -/
theorem RX.told {w2 : World} {ta' : Option Addr} {n' tc' : Nat} {e : Ev} (h : RX w col L N C B FB q pa pc oa oc bs Fs cs ta tc s) (b1 : Below w.heap.size w u) (hn : n' = s.tr.length + 1)
    (ho : w2.ownsRow 0 66 8 (.slice ta' n' tc') n' (ec (s.tr ++ [e]))) (hg : u.grownBy w2 (Value.slice ta s.tr.length tc).ownBlock)
    (hat : (Value.slice ta' n' tc').ownBlock = (Value.slice ta s.tr.length tc).ownBlock ∨ (Value.slice ta' n' tc').ownBlock = some u.heap.size) :
    ∃ col', RX (w2.setCell ⟨L, 16, none⟩ (.slice ta' n' tc')) col' L N C B FB q pa pc oa oc bs Fs cs ta' tc' (tellS s e) ∧ Tq col col' w (w2.setCell ⟨L, 16, none⟩ (.slice ta' n' tc')) := by
  obtain ⟨col', o, nn, _⟩ := ext_ex w col (fun x => (Value.slice ta' n' tc').ownBlock = some x) 5
  have sz : (w2.setCell ⟨L, 16, none⟩ (.slice ta' n' tc')).heap.size = w2.heap.size := by simp [World.setCell]
  have c : Ch (fun c => c = 0 ∨ c = 5) col col' w (w2.setCell ⟨L, 16, none⟩ (.slice ta' n' tc')) := by
    refine ⟨hg.os.trans b1.os, hg.tape.trans b1.tape, hg.output.trans b1.output, by rw [sz]; exact Nat.le_trans b1.size hg.size, fun x hx hc => ?_, o⟩
    refine ((KB.refl L w2).setCell 16 _).block x (Nat.lt_of_lt_of_le hx (Nat.le_trans b1.size hg.size)) (fun e => hc (by rw [e, h.c0]; exact .inl rfl)) |>.trans ?_
    exact (hg.block x (Nat.lt_of_lt_of_le hx b1.size) (fun e => hc (.inr (h.c5 x e.symm)))).trans (b1.block x hx)
  have hL : w2.heap[L]? = some (.cells (rcs q pa s.ps.length pc C B oa bs.length oc s.nm ta s.tr.length tc s.pk) 55 (0, 0)) :=
    (hg.block L (Nat.lt_of_lt_of_le h.lt b1.size) (fun e => by have := h.c5 L e.symm; rw [h.c0] at this; omega)).trans ((b1.block L h.lt).trans h.hp)
  have hl : (tellS s e).tr.length = n' := by rw [hn]; simp [tellS]
  have own' : (w2.setCell ⟨L, 16, none⟩ (.slice ta' n' tc')).ownsRow 0 66 8 (.slice ta' (tellS s e).tr.length tc') (tellS s e).tr.length (ec (tellS s e).tr) := by
    rw [hl]
    refine Cr.own_keep ho fun g e => ((KB.refl L w2).setCell 16 _).block g (by obtain ⟨_, cur, hc⟩ := Cr.own_blk ho g e; exact heap_lt hc) (fun e2 => ?_)
    obtain ⟨_, cur, hc⟩ := Cr.own_blk ho g e
    rw [e2, hL] at hc
    cases hc
  refine ⟨col', ⟨?_, h.keepPs c (by simp), h.keepCu c (by simp) (by simp), h.nc, h.keepCr c (by simp), h.keepRw c (by simp), h.keepQs c (by simp) (by simp), h.ni, h.md, h.vs, own', h.k0 c, h.k1 c, h.k2 c, h.k3 c, h.k4 c, fun g e => ?_, h.k6 c⟩, tq_of c (fun c e => by rcases e with e | e <;> omega)⟩
  · rw [Ba.heap_setCell_same hL]
    rw [hl]
    rfl
  · rw [hl] at e
    rcases Nat.lt_or_ge g w.heap.size with q | q
    · rcases hat with z | z
      · rw [z] at e
        exact h.k5 c g e
      · rw [z] at e
        cases e
        have := b1.size
        omega
    · exact nn g q e
end
end Rlo
end Go.Proofs.YtddchcekljndmaaGreat
/- The reference's loom: note, bare, panics, pipes, wake, over this seat's program. -/
namespace Go.Proofs.YtddchcekljndmaaGreat
open Go.ChangeShapes Go.WideShapes Go.ChangeAt Go.RowKit
namespace Rlo
open Ba Lo

theorem info_rp : (Tryz.prog.info? 126).map (fun i => (i.zero, i.size, i.bytes)) = some (some (.pointer none), 1, 8) := by kernel_rfl
set_option maxRecDepth 100000 in
set_option maxHeartbeats 1600000 in
theorem note_any (L N : Nat) (col : Nat → Nat) (s : Lm) (e : Ev) (w : World) (h : RW w col L N s) (ht : s.tr.length ≤ 1000000) :
    Calls Tryz.prog 45 #[.pointer (some ⟨L, 0, none⟩), En.evv e] w fun r w' => r = .returned (.tuple #[]) ∧ ∃ col', RW w' col' L N (tellS s e) ∧ Tq col col' w w' := by
  obtain ⟨C, B, FB, q, pa, pc, oa, oc, bs, Fs, cs, ta, tc, h⟩ := h
  unfold En.evv En.evc
  obtain ⟨i0, hi, hz0, hz1, hz2⟩ : ∃ i0, Tryz.prog.info? 66 = some i0 ∧ i0.zero = some (.agg #[.int .i64 0, .int .i64 0, .int .i64 0, .int .i64 0, .int .i64 0, .int .i64 0, .bool false, .bool false]) ∧ i0.size = 8 ∧ i0.bytes = 56 := by
    cases hi : Tryz.prog.info? 66 with
    | none => have := info_ev; rw [hi] at this; cases this
    | some i0 =>
      have hx := info_ev
      rw [hi] at hx
      simp at hx
      exact ⟨i0, rfl, hx⟩
  have INF := hide (And.intro hi (And.intro hz0 (And.intro hz1 hz2)))
  have H := hide h
  have y0 : w.cell? ⟨L, 16, none⟩ = some (.slice ta s.tr.length tc) := cell_of h.hp 16
  have f0 : w.frozen? ⟨L, 16, none⟩ = false := frozen_of h.hp 16
  have hL := h.lt
  clear h hi hz0 hz1 hz2
  have BD := hide (btr (btr (below_alloc w (.cells #[.int .i64 e.k, .int .i64 e.g, .int .i64 e.c, .int .i64 e.a, .int .i64 e.v, .int .i64 e.m, .bool e.s, .bool e.o] 66)) (below_alloc _ (.cells #[.int .i64 e.k, .int .i64 e.g, .int .i64 e.c, .int .i64 e.a, .int .i64 e.v, .int .i64 e.m, .bool e.s, .bool e.o] 66))) (bdrew1 _))
  have ow1 : ((w.alloc (.cells #[.int .i64 e.k, .int .i64 e.g, .int .i64 e.c, .int .i64 e.a, .int .i64 e.v, .int .i64 e.m, .bool e.s, .bool e.o] 66)).alloc (.cells #[.int .i64 e.k, .int .i64 e.g, .int .i64 e.c, .int .i64 e.a, .int .i64 e.v, .int .i64 e.m, .bool e.s, .bool e.o] 66)).drew.ownsRow 0 66 8 (.slice ta s.tr.length tc) s.tr.length (ec s.tr) := Cr.own_keep H.out.tr fun g e => by
    obtain ⟨_, cur, hc⟩ := Cr.own_blk H.out.tr g e
    exact BD.out.block g (heap_lt hc)
  obtain ⟨v', w6, hr, hown, hgrow, _, hat⟩ := run_append_own_at (P := Tryz.prog) (((w.alloc (.cells #[.int .i64 e.k, .int .i64 e.g, .int .i64 e.c, .int .i64 e.a, .int .i64 e.v, .int .i64 e.m, .bool e.s, .bool e.o] 66)).alloc (.cells #[.int .i64 e.k, .int .i64 e.g, .int .i64 e.c, .int .i64 e.a, .int .i64 e.v, .int .i64 e.m, .bool e.s, .bool e.o] 66)).drew) 0 28 28 66 i0 _ 8 56 Tryz.underlying28 INF.out.1 INF.out.2.1 INF.out.2.2.1 INF.out.2.2.2 rfl (by decide) _ _ _ ow1 ⟨w.heap.size + 1, 0, none⟩ 1 1 (ec [e]) rfl (src8 w e _) (ec_one _) (by unfold maxLen; omega) (by omega) (Nat.zero_le _)
  rw [← ec_app] at hown
  obtain ⟨ta', tc', rfl⟩ := own_sl hown
  have hs2 : ((w.alloc (.cells #[.int .i64 e.k, .int .i64 e.g, .int .i64 e.c, .int .i64 e.a, .int .i64 e.v, .int .i64 e.m, .bool e.s, .bool e.o] 66)).alloc (.cells #[.int .i64 e.k, .int .i64 e.g, .int .i64 e.c, .int .i64 e.a, .int .i64 e.v, .int .i64 e.m, .bool e.s, .bool e.o] 66)).drew.heap.size = w.heap.size + 1 + 1 := by rw [show ((w.alloc (.cells #[.int .i64 e.k, .int .i64 e.g, .int .i64 e.c, .int .i64 e.a, .int .i64 e.v, .int .i64 e.m, .bool e.s, .bool e.o] 66)).alloc (.cells #[.int .i64 e.k, .int .i64 e.g, .int .i64 e.c, .int .i64 e.a, .int .i64 e.v, .int .i64 e.m, .bool e.s, .bool e.o] 66)).drew.heap.size = ((w.alloc (.cells #[.int .i64 e.k, .int .i64 e.g, .int .i64 e.c, .int .i64 e.a, .int .i64 e.v, .int .i64 e.m, .bool e.s, .bool e.o] 66)).alloc (.cells #[.int .i64 e.k, .int .i64 e.g, .int .i64 e.c, .int .i64 e.a, .int .i64 e.v, .int .i64 e.m, .bool e.s, .bool e.o] 66)).heap.size from rfl, World.size_alloc, World.size_alloc]
  obtain ⟨col', hx, htr⟩ := H.out.told BD.out rfl hown hgrow hat
  have G6 : w6.heap[L]? = some (.cells (rcs q pa s.ps.length pc C B oa bs.length oc s.nm ta s.tr.length tc s.pk) 55 (0, 0)) := by
    refine (hgrow.block L (Nat.lt_of_lt_of_le hL BD.out.size) (fun e => ?_)).trans ((BD.out.block L hL).trans H.out.hp)
    have := H.out.c5 L e.symm
    rw [H.out.c0] at this
    omega
  have y6 : w6.cell? ⟨L, 16, none⟩ = some (.slice ta s.tr.length tc) := cell_of G6 16
  have f6 : w6.frozen? ⟨L, 16, none⟩ = false := frozen_of G6 16
  have HX := hide hx
  have HT := hide htr
  have HR := hide hr
  clear hown hgrow hat hr hx htr G6 ow1 BD
  go_enter Tryz.func45, Tryz.ntmps45
  go_wp2_with fail
  go_region_law (refine Rp.step_append_run _ (by rfl) _ _ _ _ (by rfl) _ _ (by rfl) (by rfl) _ _ HR.out ?_)
  all_goals
    go_wp2_with fail
    go_end0
    exact ⟨rfl, col', HX.out.lw, HT.out⟩
theorem RW.below {w w' : World} {col : Nat → Nat} {L N : Nat} {s : Lm} (h : RW w col L N s) (hb : Below w.heap.size w w') : ∃ col', RW w' col' L N s ∧ Tq col col' w w' ∧ ∀ x, w.heap.size ≤ x → col' x = 7 := by
  obtain ⟨C, B, FB, q, pa, pc, oa, oc, bs, Fs, cs, ta, tc, h⟩ := h
  obtain ⟨col', hx, ht, hn⟩ := h.below hb
  exact ⟨col', hx.lw, ht, hn⟩
theorem Tq.drew {col col' : Nat → Nat} {w w' : World} (h : Tq col col' w w') : Tq col col' w w'.drew := h.trans (tq_of (ch_below (fun _ => False) (bdrew1 w') (fun _ _ => rfl)) (fun _ e => e.elim))
theorem RW.lt {w : World} {col : Nat → Nat} {L N : Nat} {s : Lm} (h : RW w col L N s) : L < w.heap.size := by
  obtain ⟨C, B, FB, q, pa, pc, oa, oc, bs, Fs, cs, ta, tc, h⟩ := h
  exact h.lt
theorem bare_r (k g : Int) (w : World) : Calls Tryz.prog 46 #[.int .i64 k, .int .i64 g] w fun r w' => r = .returned (En.evv (bareE k g)) ∧ Below w.heap.size w w' := by
  unfold En.evv En.evc bareE
  go_enter Tryz.func46, Tryz.ntmps46
  go_wp2_with fail
  exact bodyPost_ret (En.results_row1 Tryz.results46 _ _ _ _ rfl (En.loadVar_ev (heap_new _ _) rfl)) rfl ⟨rfl, below_alloc _ _⟩
set_option maxRecDepth 100000 in
set_option maxHeartbeats 1600000 in
theorem panics_any (L N : Nat) (col : Nat → Nat) (s : Lm) (g : Int) (w : World) (h : RW w col L N s) (ht : s.tr.length ≤ 1000000) :
    Calls Tryz.prog 80 #[.pointer (some ⟨L, 0, none⟩), .int .i64 g] w fun r w' => r = .returned (.tuple #[]) ∧ ∃ col', RW w' col' L N (panicS s g) ∧ Tq col col' w w' := by
  have H := hide h
  clear h
  go_enter Tryz.func80, Tryz.ntmps80
  go_wp2_with fail
  refine (bare_r 12 g _).mono ?_
  rintro r w1 ⟨rfl, b1⟩
  obtain ⟨col1, h1, t1, -⟩ := H.out.below b1
  have T1 := hide t1
  have NO := hide (note_any L N col1 s (bareE 12 g) w1 h1 ht)
  unfold En.evv En.evc bareE at NO
  unfold En.evv En.evc bareE
  clear b1 h1 t1
  go_wp2_with fail
  refine NO.out.mono ?_
  rintro r w2 ⟨rfl, col2, h2, t2⟩
  obtain ⟨C, B, FB, q, pa, pc, oa, oc, bs, Fs, cs, ta, tc, h2⟩ := h2
  have y17 := cell_of h2.hp 17
  have f17 := frozen_of h2.hp 17
  simp [rcs] at y17
  have P := hide h2.panic
  have T2 := hide (T1.out.trans t2)
  clear h2 t2 NO
  go_wp2_with fail
  go_end0
  exact ⟨rfl, col2, P.out.1.lw, T2.out.trans P.out.2⟩
theorem RX.num {w : World} {col : Nat → Nat} {L N C B : Nat} {FB : Nat → Prop} {q : Hd} {pa : Option Addr} {pc : Nat} {oa : Option Addr} {oc : Nat} {bs : List (Option Nat)} {Fs : Nat → Nat → Prop} {cs : List (Option St)} {ta : Option Addr} {tc : Nat} {s : Lm} (h : RX w col L N C B FB q pa pc oa oc bs Fs cs ta tc s) {k : Nat} (hk : k < 8) : w.cell? ⟨L, 8 + k, none⟩ = some (.int .i64 (nth s.nm k)) := by
  rw [cell_of h.hp]
  rcases (show k = 0 ∨ k = 1 ∨ k = 2 ∨ k = 3 ∨ k = 4 ∨ k = 5 ∨ k = 6 ∨ k = 7 by omega) with rfl | rfl | rfl | rfl | rfl | rfl | rfl | rfl <;> rfl
theorem vw_take {α : Type} {nm : List Int} {l : List (Option α)} {k : Nat} (h : k < nm.length) : (vw nm l).take (k + 1) = (vw nm l).take k ++ [if nth nm k < 0 then none else (l[(nth nm k).toNat]?).join] := by
  rw [List.take_add_one, vw_at h]
  rfl
theorem own_sl1 {w : World} {base : Nat} {e : TypeId} {v : Value} {n : Nat} {xs : List Value} (h : w.ownsRow base e 1 v n xs) : ∃ oa c, v = .slice oa n c := by
  rcases h.2 with ⟨rfl, rfl⟩ | ⟨b, cap, cur, rfl, _⟩
  · exact ⟨none, 0, rfl⟩
  · exact ⟨_, _, rfl⟩
theorem pt_one (l : List (Option Nat)) : ∀ u ∈ l.map Pe.pt, u.oneCell' = true := by
  intro u hu
  rw [List.mem_map] at hu
  obtain ⟨o, _, rfl⟩ := hu
  rfl
set_option maxRecDepth 100000 in
set_option maxHeartbeats 1600000 in
theorem pipes_r {L N C B : Nat} {col : Nat → Nat} {FB : Nat → Prop} {q : Hd} {pa : Option Addr} {pc : Nat} {oa : Option Addr} {oc : Nat} {bs : List (Option Nat)} {Fs : Nat → Nat → Prop} {cs : List (Option St)} {ta : Option Addr} {tc : Nat} {s : Lm} (w : World) (h : RX w col L N C B FB q pa pc oa oc bs Fs cs ta tc s) :
    Calls Tryz.prog 75 #[.pointer (some ⟨L, 0, none⟩)] w fun r w' => ∃ ob d, r = .returned (.slice ob (vw s.nm bs).length d) ∧ w'.ownsRow w.heap.size 126 1 (.slice ob (vw s.nm bs).length d) (vw s.nm bs).length ((vw s.nm bs).map Pe.pt) ∧ Below w.heap.size w w' := by
  obtain ⟨i0, hi, hz0, hz1, hz2⟩ : ∃ i0, Tryz.prog.info? 126 = some i0 ∧ i0.zero = some (.pointer none) ∧ i0.size = 1 ∧ i0.bytes = 8 := by
    cases hi : Tryz.prog.info? 126 with
    | none => have := info_rp; rw [hi] at this; cases this
    | some i0 =>
      have hx := info_rp
      rw [hi] at hx
      simp at hx
      exact ⟨i0, rfl, hx⟩
  have INF := hide (And.intro hi (And.intro hz0 (And.intro hz1 hz2)))
  have H := hide h
  have hL := h.lt
  have L8 : Hid ((vw s.nm bs).length = 8) := (vw_len _ _).trans h.ni.len
  clear h hi hz0 hz1 hz2
  go_enter Tryz.func75, Tryz.ntmps75
  go_wp2_with fail
  go_loopw [3, 4] (fun v iv wr => ∃ (k : Nat), k ≤ 8 ∧ iv = .int .i64 k ∧ wr.ownsRow w.heap.size 126 1 v k (((vw s.nm bs).take k).map Pe.pt) ∧ Below w.heap.size w wr) (fun v iv _ => 8 - (intOf iv).toNat)
  case atStart => exact ⟨0, by omega, rfl, by simpa using World.ownsRow_nil _ _ _ _, Below.refl _ _⟩
  case round =>
    obtain ⟨k, hk, rfl, ho, hb⟩ := hrel
    have HO := hide ho
    have HB := hide hb
    clear ho hb
    by_cases hlt : k < 8
    · have nu : wr.cell? ⟨L, 8 + k, none⟩ = some (.int .i64 (nth s.nm k)) := Sh.cellB (H.out.num hlt) HB.out
      have hlt' : (k : Int) < 8 := by omega
      have k0 : (0 : Int) ≤ (k : Int) := by omega
      have TK := hide (vw_take (nm := s.nm) (l := bs) (k := k) (by rw [H.out.ni.len]; exact hlt))
      by_cases h0 : nth s.nm k < 0
      · have TK2 : Hid ((vw s.nm bs).take (k + 1) = (vw s.nm bs).take k ++ [none]) := by
          have := TK.out
          rw [if_pos h0] at this
          exact this
        have BY := below_alloc wr (.cells #[Value.pointer none] 126)
        have OW3 := hide (own_below HO.out BY)
        have HB3 := hide (btr HB.out BY)
        have SRC := hide (cell_one_new wr (.pointer none) 126)
        clear BY
        go_wp2_with (at_builtin; refine wpList_append_own _ rfl _ _ 52 rfl w.heap.size 126 i0 (.pointer none) 1 8 Tryz.underlying52 INF.out.1 INF.out.2.1 INF.out.2.2.1 INF.out.2.2.2 rfl (by decide) _ _ _ rfl OW3.out ⟨wr.heap.size, 0, none⟩ 1 1 [.pointer none] rfl rfl ?c1 ?c2 ?c3 ?c4 ?c5 ?_)
        case c1 => exact SRC.out
        case c2 => exact pt_one [none]
        case c3 => unfold maxLen; omega
        case c4 => omega
        case c5 => exact HB3.out.size
        intro v' w3 ho hg3 _
        have B3 : Hid (Below w.heap.size w w3) := HB3.out.grown hg3 HB3.out.size (fun x hx => (OW3.out.lt x hx).1)
        have O3 : Hid (w3.ownsRow w.heap.size 126 1 v' (k + 1) (((vw s.nm bs).take (k + 1)).map Pe.pt)) := by
          show World.ownsRow _ _ _ _ _ _ _
          rw [TK2.out, List.map_append, List.map_take]
          exact ho
        clear ho hg3
        go_wp2_with fail
        go_roundw
        case rel => exact ⟨k + 1, by omega, by go_num, O3.out, B3.out⟩
        case measure => simp [intOf]; omega
      · obtain ⟨n, hn⟩ : ∃ n : Nat, nth s.nm k = (n : Int) := ⟨(nth s.nm k).toNat, by omega⟩
        have nl : n < bs.length := by have := H.out.ni.lt k hlt; omega
        obtain ⟨o, hbo⟩ : ∃ o, bs[n]? = some o := ⟨_, List.getElem?_eq_getElem nl⟩
        have TK2 : Hid ((vw s.nm bs).take (k + 1) = (vw s.nm bs).take k ++ [o]) := by
          have := TK.out
          rw [if_neg h0, hn, Int.toNat_natCast, join_some hbo] at this
          exact this
        obtain ⟨b, off, hoa, hc⟩ := (own_row H.out.rw).1 n o hbo
        have z7 : wr.cell? ⟨L, 7, none⟩ = some (.slice oa bs.length oc) := Sh.cellB (cell_of H.out.hp 7) HB.out
        have zc : wr.cell? ⟨b, off + n, none⟩ = some (Pe.pt o) := Sh.cellB hc HB.out
        rw [hn] at nu
        subst hoa
        have n0 : (0 : Int) ≤ (n : Int) := by omega
        have n1 : (n : Int) < (bs.length : Int) := by omega
        have hn0 : ¬ ((n : Int) < 0) := by omega
        unfold Pe.pt at zc
        have BY := hide (btr (below_alloc wr (.cells #[Pe.pt o] 126)) (bdrew1 _))
        have OW3 := hide (own_below HO.out BY.out)
        have HB3 := hide (btr HB.out BY.out)
        obtain ⟨v', w6, hr, hown, hgrow, _, _⟩ := run_append_own_at (P := Tryz.prog) ((wr.alloc (.cells #[Pe.pt o] 126)).drew) w.heap.size 52 52 126 i0 _ 1 8 Tryz.underlying52 INF.out.1 INF.out.2.1 INF.out.2.2.1 INF.out.2.2.2 rfl (by decide) _ _ _ OW3.out ⟨wr.heap.size, 0, none⟩ 1 1 [Pe.pt o] rfl (cell_one_new wr (Pe.pt o) 126) (pt_one [o]) (by unfold maxLen; omega) (by omega) HB3.out.size
        have B3 : Hid (Below w.heap.size w w6) := HB3.out.grown hgrow HB3.out.size (fun x hx => (OW3.out.lt x hx).1)
        have O3 : Hid (w6.ownsRow w.heap.size 126 1 v' (k + 1) (((vw s.nm bs).take (k + 1)).map Pe.pt)) := by
          show World.ownsRow _ _ _ _ _ _ _
          rw [TK2.out, List.map_append]
          exact hown
        have HR := hide hr
        unfold Pe.pt at HR
        generalize o.map (fun b => (⟨b, 0, none⟩ : Addr)) = po at zc HR
        clear hr hown hgrow OW3 HB3 BY TK TK2 hbo hc HO HB
        go_wp2_with fail
        go_region_law (refine Rp.step_append_run _ (by rfl) _ _ _ _ (by rfl) _ _ (by rfl) (by rfl) _ _ HR.out ?_)
        all_goals
          go_wp2_with fail
          go_roundw
          case rel => exact ⟨k + 1, by omega, by go_num, O3.out, B3.out⟩
          case measure => simp [intOf]; omega
    · have hlt' : decide ((k : Int) < 8) = false := decide_eq_false (by omega)
      have hk8 : Hid (k = (vw s.nm bs).length) := by show _ = _; rw [L8.out]; omega
      have e8 : (vw s.nm bs).take k = vw s.nm bs := List.take_of_length_le (by rw [L8.out]; omega)
      have O8 := HO.out
      rw [e8] at O8
      obtain ⟨ob, d, rfl⟩ := own_sl1 O8
      have O9 := hide O8
      clear O8 e8 HO
      go_wp2_with fail
      go_ret
      refine ⟨ob, d, by rw [hk8.out]; rfl, ?_, HB.out⟩
      rw [← hk8.out]
      exact O9.out
set_option maxRecDepth 100000 in
set_option maxHeartbeats 1600000 in
theorem wake_any (L N : Nat) (col : Nat → Nat) (s : Lm) (K : Nat) (e : Ev) (w : World) (h : RW w col L N s) (hn : Cr.Bn K s.cr) (hK : K ≤ 100000) (ht : s.tr.length ≤ 1000000) (hm : s.md ≤ 1000) :
    Calls Tryz.prog 82 #[.pointer (some ⟨L, 0, none⟩), En.evv e] w fun r w' => r = .returned (.tuple #[]) ∧ ∃ col', RW w' col' L N (wakesS s e) ∧ Tq col col' w w' := by
  obtain ⟨col1, h1, t1, n1⟩ := h.below (below_alloc w (.cells #[.int .i64 e.k, .int .i64 e.g, .int .i64 e.c, .int .i64 e.a, .int .i64 e.v, .int .i64 e.m, .bool e.s, .bool e.o] 66))
  have T1 := hide t1
  have E1 := hide (heap_new w (.cells #[.int .i64 e.k, .int .i64 e.g, .int .i64 e.c, .int .i64 e.a, .int .i64 e.v, .int .i64 e.m, .bool e.s, .bool e.o] 66))
  have hL := h.lt
  have N1 := hide (n1 w.heap.size (Nat.le_refl _))
  have NO := hide (note_any L N col1 s e (w.alloc (.cells #[.int .i64 e.k, .int .i64 e.g, .int .i64 e.c, .int .i64 e.a, .int .i64 e.v, .int .i64 e.m, .bool e.s, .bool e.o] 66)) h1 ht)
  have HN := hide hn
  unfold En.evv En.evc at NO
  unfold En.evv En.evc
  clear h t1 h1 n1 hn
  go_enter Tryz.func82, Tryz.ntmps82
  go_wp2_with fail
  refine NO.out.mono ?_
  rintro r w2 ⟨rfl, col2, h2, t2⟩
  obtain ⟨C, B, FB, q, pa, pc, oa, oc, bs, Fs, cs, ta, tc, h2⟩ := h2
  have T2 := hide (T1.out.trans t2).drew
  have E2 := hide (t2.heap E1.out N1.out)
  have C2 : Hid (col2 w.heap.size = 7) := (t2.old _ (heap_lt E1.out) (by rw [N1.out]; omega)).trans N1.out
  have y7 := cell_of h2.hp 7
  have a1 := cell_of E2.out 1
  simp [rcs] at y7 a1
  have LE := hide (Fk.rleave_any e.g oa bs oc Fs cs w2.drew h2.drew.qs (by have := h2.md; have : (tellS s e).md = s.md := rfl; omega))
  have H2 := hide h2.drew
  clear h2 t2 NO T1 E1 N1
  go_wp2_with fail
  go_region_with (go_at_call 107; refine LE.out.mono ?_; rintro r w3 ⟨rfl, p3⟩)
  all_goals
    obtain ⟨Fs3, col3, h3, t3⟩ := H2.out.all p3
    have T3 := hide (T2.out.trans t3).drew
    have E3 := hide (t3.heap (heap_below E2.out (bdrew1 _)) C2.out)
    have y6 := cell_of h3.hp 6
    have b1 := cell_of E3.out 1
    simp [rcs] at y6 b1
    have GO := hide (Cr.rturn10 B FB s.cr K e.g w3.drew h3.drew.cr HN.out hK)
    have H3 := hide h3.drew
    have V2 := hide H2.out.vs
    clear h3 t3 p3 LE H2 E2 C2 T2 y7 a1
    go_wp2_with fail
    first
      | refine GO.out.mono ?_
        rintro r w4 ⟨rfl, p4⟩
      | go_region_with (go_at_call 79; refine GO.out.mono ?_; rintro r w4 ⟨rfl, p4⟩)
    all_goals
      obtain ⟨FB4, col4, h4, t4⟩ := H3.out.crew p4
      have H4 := hide h4
      have T4 := hide (T3.out.trans t4)
      clear h4 t4 p4 GO H3 T3
      go_wp2_with fail
      go_end0
      refine ⟨rfl, col4, ?_, T4.out⟩
      have es : wakesS s e = { (tellS s e) with sts := vw s.nm (Fk.leaveS e.g cs), cr := Cr.chL s.cr e.g 1 0 1 } := by
        have : s.sts = vw s.nm cs := V2.out
        simp [wakesS, tellS, vw_leave, ← this]
      rw [es]
      exact H4.out.lw
end Rlo
end Go.Proofs.YtddchcekljndmaaGreat
/- The reference's Try, over this seat's program. -/
namespace Go.Proofs.YtddchcekljndmaaGreat
open Go.ChangeShapes Go.WideShapes Go.ChangeAt Go.RowKit
namespace Fk
open Ba Pe _root_.Go.Proofs.YtddchcekljndmaaGreat.Pi Rp

set_option maxRecDepth 100000 in
set_option maxHeartbeats 6400000 in
theorem rtry_false (ch val : Int) (oa : Option Addr) (bs : List (Option Nat)) (cp : Nat) (Fs : Nat → Nat → Prop) (sts : List (Option St)) (w : World) (h : Qs Rr w oa bs Fs sts) (hs : Sml sts) :
    Calls Tryz.prog 104 #[cv ⟨false, ch, val⟩, .slice oa bs.length cp] w fun r w' => r = .returned (.tuple #[gv (tryG sts ⟨false, ch, val⟩), .int .i64 (tryE sts ⟨false, ch, val⟩)]) ∧ Rz Rr w w' oa bs Fs (tryS sts ⟨false, ch, val⟩) := by
  have b1 := below_alloc w (.cells #[.bool false, .int .i64 ch, .int .i64 val] 92)
  have b2 := below_alloc (w.alloc (.cells #[.bool false, .int .i64 ch, .int .i64 val] 92)) (.cells #[.bool false, .bool false, .bool false, .int .i64 0, .int .i64 0, .int .i64 0, .int .i64 0] 169)
  have BB := hide (btr b1 b2)
  have X2 := hide (heap_below (heap_new w (.cells #[.bool false, .int .i64 ch, .int .i64 val] 92)) b2)
  have hz := heap_new (w.alloc (.cells #[.bool false, .int .i64 ch, .int .i64 val] 92)) (.cells #[.bool false, .bool false, .bool false, .int .i64 0, .int .i64 0, .int .i64 0, .int .i64 0] 169)
  rw [World.size_alloc] at hz
  have Z2 := hide hz
  have NM := hide (rnamed_any oa bs ch cp _ (h.row.below BB.out))
  have H := hide h
  have hS2 : ((w.alloc (.cells #[.bool false, .int .i64 ch, .int .i64 val] 92)).alloc (.cells #[.bool false, .bool false, .bool false, .int .i64 0, .int .i64 0, .int .i64 0, .int .i64 0] 169)).heap.size = w.heap.size + 2 := by rw [World.size_alloc, World.size_alloc]
  have NZ : Hid (∀ i, ¬ Fs i (w.heap.size + 1)) := fun i e => by have := h.bd i _ e; omega
  have RR : Hid (∀ a, oa = some a → a.block < w.heap.size ∨ bs = []) := fun a e => by
    cases hb : bs with
    | nil => exact .inr rfl
    | cons o t => exact .inl (h.rl (i := 0) (o := o) (by rw [hb]; rfl) a e)
  clear b1 b2 hz
  unfold tryG tryE tryS cv
  rcases h.nm ch with ⟨e1, e2⟩ | ⟨B, st, e1, e2, h0, hl, hi, hi2, q⟩
  · rw [e2]
    simp only
    rw [e1] at NM
    simp only [pt, Option.map_none] at NM
    clear h e1 e2
    go_enter Tryz.func104, Tryz.ntmps104
    go_wp2_with fail
    generalize (w.alloc (.cells #[.bool false, .int .i64 ch, .int .i64 val] 92)).alloc (.cells #[.bool false, .bool false, .bool false, .int .i64 0, .int .i64 0, .int .i64 0, .int .i64 0] 169) = W2 at BB X2 Z2 NM hS2 ⊢
    refine NM.out.mono ?_
    rintro r w2 ⟨rfl, rfl⟩
    have x0 : w2.cell? ⟨w.heap.size, 0, none⟩ = some (.bool false) := cell_of X2.out 0
    have x2 : w2.cell? ⟨w.heap.size, 2, none⟩ = some (.int .i64 val) := cell_of X2.out 2
    have z0 : w2.cell? ⟨w.heap.size + 1, 0, none⟩ = some (.bool false) := cell_of Z2.out 0
    have zf0 := frozen_of Z2.out 0
    have z1 : w2.cell? ⟨w.heap.size + 1, 1, none⟩ = some (.bool false) := cell_of Z2.out 1
    have zf1 := frozen_of Z2.out 1
    have z2 : w2.cell? ⟨w.heap.size + 1, 2, none⟩ = some (.bool false) := cell_of Z2.out 2
    have zf2 := frozen_of Z2.out 2
    have z3 : w2.cell? ⟨w.heap.size + 1, 3, none⟩ = some (.int .i64 0) := cell_of Z2.out 3
    have zf3 := frozen_of Z2.out 3
    have z4 : w2.cell? ⟨w.heap.size + 1, 4, none⟩ = some (.int .i64 0) := cell_of Z2.out 4
    have zf4 := frozen_of Z2.out 4
    have z5 : w2.cell? ⟨w.heap.size + 1, 5, none⟩ = some (.int .i64 0) := cell_of Z2.out 5
    have zf5 := frozen_of Z2.out 5
    have z6 : w2.cell? ⟨w.heap.size + 1, 6, none⟩ = some (.int .i64 0) := cell_of Z2.out 6
    have zf6 := frozen_of Z2.out 6
    go_wp2_with fail
    exact bodyPost_ret (results_row2 Tryz.results104 _ _ _ _ _ rfl rfl (loadVar_rgot (got_set Z2.out _ _ _ _ _ _ _) rfl)) rfl ⟨rfl, Rz.set7 frR ⟨Fs, NwA.refl _ _, H.out.below frR BB.out, KF.of BB.out, NZ.out⟩ (Nat.le_succ _) RR.out _ _ _ _ _ _ _⟩
  · rw [e2]
    simp only [Bool.false_eq_true, if_false]
    rw [e1] at NM
    simp only [pt, Option.map_some] at NM
    have hb1 := (hs _ _ hi2).1
    have hb2 := (hs _ _ hi2).2
    have HI := hide hi
    have P2 := hide (q.below BB.out)
    clear h e1 e2 q hi hi2 h0 hl
    have CL := hide (rrecv_any B _ st _ P2.out hb1 hb2)
    generalize recvG st = gg at CL ⊢
    skip
    obtain ⟨rd, ok, wk, v, ⟨mg, mc, mv⟩⟩ := gg
    unfold gv at CL ⊢
    go_enter Tryz.func104, Tryz.ntmps104
    go_wp2_with fail
    generalize (w.alloc (.cells #[.bool false, .int .i64 ch, .int .i64 val] 92)).alloc (.cells #[.bool false, .bool false, .bool false, .int .i64 0, .int .i64 0, .int .i64 0, .int .i64 0] 169) = W2 at BB X2 Z2 NM hS2 P2 CL ⊢
    refine NM.out.mono ?_
    rintro r w2 ⟨rfl, rfl⟩
    have x0 : w2.cell? ⟨w.heap.size, 0, none⟩ = some (.bool false) := cell_of X2.out 0
    have x2 : w2.cell? ⟨w.heap.size, 2, none⟩ = some (.int .i64 val) := cell_of X2.out 2
    go_wp2_with fail
    refine CL.out.mono ?_
    rintro r w3 ⟨rfl, k3, F3, n3, p3⟩
    have Z3 := hide (k3.heap Z2.out (NZ.out _))
    have R3 := hide (Rz.step frR H.out BB.out HI.out k3 n3 p3)
    have NZ3 : Hid (∃ Fs', NwA Fs' Fs w ∧ Qs Rr w3 oa bs Fs' (sts.set ch.toNat (some (recvS st))) ∧ KF (All Fs) w w3 ∧ ∀ i, ¬ Fs' i (w.heap.size + 1)) := by
      have ha := H.out.below frR BB.out
      refine ⟨up Fs ch.toNat F3, ?_, ha.step frR HI.out k3 n3 p3 (ha.rl HI.out), (KF.of (F := All Fs) BB.out).trans k3 (fun x hx => .inl ⟨_, hx⟩), ?_⟩
      · intro j x hx
        by_cases e : j = ch.toNat
        · subst e
          rw [up_same] at hx
          rcases n3 x hx with z | z
          · exact .inl ⟨_, z⟩
          · exact .inr (by omega)
        · rw [up_other _ _ _ _ e] at hx
          exact .inl ⟨j, hx⟩
      · intro j hx
        by_cases e : j = ch.toNat
        · subst e
          rw [up_same] at hx
          rcases n3 _ hx with z | z
          · exact NZ.out _ z
          · omega
        · rw [up_other _ _ _ _ e] at hx
          exact NZ.out _ hx
    clear k3 n3 p3 R3
    have z0 : w3.cell? ⟨w.heap.size + 1, 0, none⟩ = some (.bool false) := cell_of Z3.out 0
    have zf0 := frozen_of Z3.out 0
    have z1 : w3.cell? ⟨w.heap.size + 1, 1, none⟩ = some (.bool false) := cell_of Z3.out 1
    have zf1 := frozen_of Z3.out 1
    have z2 : w3.cell? ⟨w.heap.size + 1, 2, none⟩ = some (.bool false) := cell_of Z3.out 2
    have zf2 := frozen_of Z3.out 2
    have z3 : w3.cell? ⟨w.heap.size + 1, 3, none⟩ = some (.int .i64 0) := cell_of Z3.out 3
    have zf3 := frozen_of Z3.out 3
    have z4 : w3.cell? ⟨w.heap.size + 1, 4, none⟩ = some (.int .i64 0) := cell_of Z3.out 4
    have zf4 := frozen_of Z3.out 4
    have z5 : w3.cell? ⟨w.heap.size + 1, 5, none⟩ = some (.int .i64 0) := cell_of Z3.out 5
    have zf5 := frozen_of Z3.out 5
    have z6 : w3.cell? ⟨w.heap.size + 1, 6, none⟩ = some (.int .i64 0) := cell_of Z3.out 6
    have zf6 := frozen_of Z3.out 6
    go_wp2_with fail
    exact bodyPost_ret (results_row2 Tryz.results104 _ _ _ _ _ rfl rfl (loadVar_rgot (got_set Z3.out _ _ _ _ _ _ _) rfl)) rfl ⟨rfl, Rz.set7 frR NZ3.out (Nat.le_succ _) RR.out _ _ _ _ _ _ _⟩
set_option maxRecDepth 100000 in
set_option maxHeartbeats 6400000 in
theorem rtry_true (ch val : Int) (oa : Option Addr) (bs : List (Option Nat)) (cp : Nat) (Fs : Nat → Nat → Prop) (sts : List (Option St)) (w : World) (h : Qs Rr w oa bs Fs sts) (hs : Sml sts) :
    Calls Tryz.prog 104 #[cv ⟨true, ch, val⟩, .slice oa bs.length cp] w fun r w' => r = .returned (.tuple #[gv (tryG sts ⟨true, ch, val⟩), .int .i64 (tryE sts ⟨true, ch, val⟩)]) ∧ Rz Rr w w' oa bs Fs (tryS sts ⟨true, ch, val⟩) := by
  have b1 := below_alloc w (.cells #[.bool true, .int .i64 ch, .int .i64 val] 92)
  have b2 := below_alloc (w.alloc (.cells #[.bool true, .int .i64 ch, .int .i64 val] 92)) (.cells #[.bool false, .bool false, .bool false, .int .i64 0, .int .i64 0, .int .i64 0, .int .i64 0] 169)
  have BB := hide (btr b1 b2)
  have X2 := hide (heap_below (heap_new w (.cells #[.bool true, .int .i64 ch, .int .i64 val] 92)) b2)
  have hz := heap_new (w.alloc (.cells #[.bool true, .int .i64 ch, .int .i64 val] 92)) (.cells #[.bool false, .bool false, .bool false, .int .i64 0, .int .i64 0, .int .i64 0, .int .i64 0] 169)
  rw [World.size_alloc] at hz
  have Z2 := hide hz
  have NM := hide (rnamed_any oa bs ch cp _ (h.row.below BB.out))
  have H := hide h
  have hS2 : ((w.alloc (.cells #[.bool true, .int .i64 ch, .int .i64 val] 92)).alloc (.cells #[.bool false, .bool false, .bool false, .int .i64 0, .int .i64 0, .int .i64 0, .int .i64 0] 169)).heap.size = w.heap.size + 2 := by rw [World.size_alloc, World.size_alloc]
  have NZ : Hid (∀ i, ¬ Fs i (w.heap.size + 1)) := fun i e => by have := h.bd i _ e; omega
  have RR : Hid (∀ a, oa = some a → a.block < w.heap.size ∨ bs = []) := fun a e => by
    cases hb : bs with
    | nil => exact .inr rfl
    | cons o t => exact .inl (h.rl (i := 0) (o := o) (by rw [hb]; rfl) a e)
  clear b1 b2 hz
  unfold tryG tryE tryS cv
  rcases h.nm ch with ⟨e1, e2⟩ | ⟨B, st, e1, e2, h0, hl, hi, hi2, q⟩
  · rw [e2]
    simp only
    rw [e1] at NM
    simp only [pt, Option.map_none] at NM
    clear h e1 e2
    go_enter Tryz.func104, Tryz.ntmps104
    go_wp2_with fail
    generalize (w.alloc (.cells #[.bool true, .int .i64 ch, .int .i64 val] 92)).alloc (.cells #[.bool false, .bool false, .bool false, .int .i64 0, .int .i64 0, .int .i64 0, .int .i64 0] 169) = W2 at BB X2 Z2 NM hS2 ⊢
    refine NM.out.mono ?_
    rintro r w2 ⟨rfl, rfl⟩
    have x0 : w2.cell? ⟨w.heap.size, 0, none⟩ = some (.bool true) := cell_of X2.out 0
    have x2 : w2.cell? ⟨w.heap.size, 2, none⟩ = some (.int .i64 val) := cell_of X2.out 2
    have z0 : w2.cell? ⟨w.heap.size + 1, 0, none⟩ = some (.bool false) := cell_of Z2.out 0
    have zf0 := frozen_of Z2.out 0
    have z1 : w2.cell? ⟨w.heap.size + 1, 1, none⟩ = some (.bool false) := cell_of Z2.out 1
    have zf1 := frozen_of Z2.out 1
    have z2 : w2.cell? ⟨w.heap.size + 1, 2, none⟩ = some (.bool false) := cell_of Z2.out 2
    have zf2 := frozen_of Z2.out 2
    have z3 : w2.cell? ⟨w.heap.size + 1, 3, none⟩ = some (.int .i64 0) := cell_of Z2.out 3
    have zf3 := frozen_of Z2.out 3
    have z4 : w2.cell? ⟨w.heap.size + 1, 4, none⟩ = some (.int .i64 0) := cell_of Z2.out 4
    have zf4 := frozen_of Z2.out 4
    have z5 : w2.cell? ⟨w.heap.size + 1, 5, none⟩ = some (.int .i64 0) := cell_of Z2.out 5
    have zf5 := frozen_of Z2.out 5
    have z6 : w2.cell? ⟨w.heap.size + 1, 6, none⟩ = some (.int .i64 0) := cell_of Z2.out 6
    have zf6 := frozen_of Z2.out 6
    go_wp2_with fail
    exact bodyPost_ret (results_row2 Tryz.results104 _ _ _ _ _ rfl rfl (loadVar_rgot (got_set Z2.out _ _ _ _ _ _ _) rfl)) rfl ⟨rfl, Rz.set7 frR ⟨Fs, NwA.refl _ _, H.out.below frR BB.out, KF.of BB.out, NZ.out⟩ (Nat.le_succ _) RR.out _ _ _ _ _ _ _⟩
  · rw [e2]
    simp only [if_true]
    rw [e1] at NM
    simp only [pt, Option.map_some] at NM
    have hb1 := (hs _ _ hi2).1
    have hb2 := (hs _ _ hi2).2
    have HI := hide hi
    have P2 := hide (q.below BB.out)
    clear h e1 e2 q hi hi2 h0 hl
    have CL := hide (rsend_any B _ st val _ P2.out hb1 hb2)
    generalize sendG st = gg at CL ⊢
    generalize sendE st = ee at CL ⊢
    obtain ⟨rd, ok, wk, v, ⟨mg, mc, mv⟩⟩ := gg
    unfold gv at CL ⊢
    go_enter Tryz.func104, Tryz.ntmps104
    go_wp2_with fail
    generalize (w.alloc (.cells #[.bool true, .int .i64 ch, .int .i64 val] 92)).alloc (.cells #[.bool false, .bool false, .bool false, .int .i64 0, .int .i64 0, .int .i64 0, .int .i64 0] 169) = W2 at BB X2 Z2 NM hS2 P2 CL ⊢
    refine NM.out.mono ?_
    rintro r w2 ⟨rfl, rfl⟩
    have x0 : w2.cell? ⟨w.heap.size, 0, none⟩ = some (.bool true) := cell_of X2.out 0
    have x2 : w2.cell? ⟨w.heap.size, 2, none⟩ = some (.int .i64 val) := cell_of X2.out 2
    go_wp2_with fail
    refine CL.out.mono ?_
    rintro r w3 ⟨rfl, k3, F3, n3, p3⟩
    have Z3 := hide (k3.heap Z2.out (NZ.out _))
    have R3 := hide (Rz.step frR H.out BB.out HI.out k3 n3 p3)
    have NZ3 : Hid (∃ Fs', NwA Fs' Fs w ∧ Qs Rr w3 oa bs Fs' (sts.set ch.toNat (some (sendS st val))) ∧ KF (All Fs) w w3 ∧ ∀ i, ¬ Fs' i (w.heap.size + 1)) := by
      have ha := H.out.below frR BB.out
      refine ⟨up Fs ch.toNat F3, ?_, ha.step frR HI.out k3 n3 p3 (ha.rl HI.out), (KF.of (F := All Fs) BB.out).trans k3 (fun x hx => .inl ⟨_, hx⟩), ?_⟩
      · intro j x hx
        by_cases e : j = ch.toNat
        · subst e
          rw [up_same] at hx
          rcases n3 x hx with z | z
          · exact .inl ⟨_, z⟩
          · exact .inr (by omega)
        · rw [up_other _ _ _ _ e] at hx
          exact .inl ⟨j, hx⟩
      · intro j hx
        by_cases e : j = ch.toNat
        · subst e
          rw [up_same] at hx
          rcases n3 _ hx with z | z
          · exact NZ.out _ z
          · omega
        · rw [up_other _ _ _ _ e] at hx
          exact NZ.out _ hx
    clear k3 n3 p3 R3
    have z0 : w3.cell? ⟨w.heap.size + 1, 0, none⟩ = some (.bool false) := cell_of Z3.out 0
    have zf0 := frozen_of Z3.out 0
    have z1 : w3.cell? ⟨w.heap.size + 1, 1, none⟩ = some (.bool false) := cell_of Z3.out 1
    have zf1 := frozen_of Z3.out 1
    have z2 : w3.cell? ⟨w.heap.size + 1, 2, none⟩ = some (.bool false) := cell_of Z3.out 2
    have zf2 := frozen_of Z3.out 2
    have z3 : w3.cell? ⟨w.heap.size + 1, 3, none⟩ = some (.int .i64 0) := cell_of Z3.out 3
    have zf3 := frozen_of Z3.out 3
    have z4 : w3.cell? ⟨w.heap.size + 1, 4, none⟩ = some (.int .i64 0) := cell_of Z3.out 4
    have zf4 := frozen_of Z3.out 4
    have z5 : w3.cell? ⟨w.heap.size + 1, 5, none⟩ = some (.int .i64 0) := cell_of Z3.out 5
    have zf5 := frozen_of Z3.out 5
    have z6 : w3.cell? ⟨w.heap.size + 1, 6, none⟩ = some (.int .i64 0) := cell_of Z3.out 6
    have zf6 := frozen_of Z3.out 6
    go_wp2_with fail
    exact bodyPost_ret (results_row2 Tryz.results104 _ _ _ _ _ rfl rfl (loadVar_rgot (got_set Z3.out _ _ _ _ _ _ _) rfl)) rfl ⟨rfl, Rz.set7 frR NZ3.out (Nat.le_succ _) RR.out _ _ _ _ _ _ _⟩
theorem rtry_any (c : Ca) (oa : Option Addr) (bs : List (Option Nat)) (cp : Nat) (Fs : Nat → Nat → Prop) (sts : List (Option St)) (w : World) (h : Qs Rr w oa bs Fs sts) (hs : Sml sts) :
    Calls Tryz.prog 104 #[cv c, .slice oa bs.length cp] w fun r w' => r = .returned (.tuple #[gv (tryG sts c), .int .i64 (tryE sts c)]) ∧ Rz Rr w w' oa bs Fs (tryS sts c) := by
  obtain ⟨sd, ch, val⟩ := c
  cases sd
  · exact rtry_false ch val oa bs cp Fs sts w h hs
  · exact rtry_true ch val oa bs cp Fs sts w h hs
end Fk
end Go.Proofs.YtddchcekljndmaaGreat
/- A loom's isParked, service and opens, over this seat's program. -/
namespace Go.Proofs.YtddchcekljndmaaGreat
open Go.ChangeShapes Go.WideShapes Go.ChangeAt Go.RowKit
namespace Lo
open Ba

section
variable {w : World} {col : Nat → Nat} {L N C B X : Nat} {FB : Nat → Prop} {pa : Option Addr} {pc : Nat} {bs : List (Option Nat)} {Fs : Nat → Nat → Prop} {ta : Option Addr} {tc : Nat} {s : Lm}
theorem LX.cells (h : LX w col L N C B X FB pa pc bs Fs ta tc s) : w.cell? ⟨L, 0, none⟩ = some (.slice pa s.ps.length pc) ∧ w.cell? ⟨L, 1, none⟩ = some (.pointer (some ⟨C, 0, none⟩)) ∧ w.cell? ⟨L, 2, none⟩ = some (.pointer (some ⟨B, 0, none⟩)) ∧ w.cell? ⟨L, 3, none⟩ = some (.slice (some ⟨X, 0, none⟩) 8 8) ∧ w.cell? ⟨L, 12, none⟩ = some (.int .i64 s.md) ∧ w.cell? ⟨L, 13, none⟩ = some (.slice ta s.tr.length tc) ∧ w.cell? ⟨L, 14, none⟩ = some (.bool s.pk) :=
  ⟨cell_of h.hp 0, cell_of h.hp 1, cell_of h.hp 2, cell_of h.hp 3, cell_of h.hp 12, cell_of h.hp 13, cell_of h.hp 14⟩
theorem LX.num (h : LX w col L N C B X FB pa pc bs Fs ta tc s) {k : Nat} (hk : k < 8) : w.cell? ⟨L, 4 + k, none⟩ = some (.int .i64 (nth s.nm k)) := by
  rcases (show k = 0 ∨ k = 1 ∨ k = 2 ∨ k = 3 ∨ k = 4 ∨ k = 5 ∨ k = 6 ∨ k = 7 by omega) with rfl | rfl | rfl | rfl | rfl | rfl | rfl | rfl
  · exact cell_of h.hp 4
  · exact cell_of h.hp 5
  · exact cell_of h.hp 6
  · exact cell_of h.hp 7
  · exact cell_of h.hp 8
  · exact cell_of h.hp 9
  · exact cell_of h.hp 10
  · exact cell_of h.hp 11
theorem LX.at (h : LX w col L N C B X FB pa pc bs Fs ta tc s) {k : Nat} (hk : k < 8) : ∃ o, bs[k]? = some o ∧ w.cell? ⟨X, k, none⟩ = some (Pe.pt o) := by
  have hl : k < bs.length := by rw [h.bl]; exact hk
  refine ⟨bs[k], List.getElem?_eq_getElem hl, ?_⟩
  rw [cell_of h.rw]
  simp [List.getElem?_eq_getElem hl]
end
section
variable {w w1 : World} {col : Nat → Nat} {L N C B X : Nat} {FB : Nat → Prop} {pa : Option Addr} {pc : Nat} {bs : List (Option Nat)} {Fs : Nat → Nat → Prop} {ta : Option Addr} {tc : Nat} {s : Lm}
theorem pr_row {w : World} {X : Nat} {bs : List (Option Nat)} {t : TypeId} {f : Nat × Nat} (h : w.heap[X]? = some (.cells (bs.map Pe.pt).toArray t f)) : Fk.PR w (some ⟨X, 0, none⟩) bs := by
  intro i o hi
  refine ⟨X, 0, rfl, ?_⟩
  rw [Nat.zero_add, cell_of h]
  simp [hi]
/-- a name has a new channel -/
theorem LX.opened {k B1 : Nat} {F1 : Nat → Prop} {st : St} (h : LX w col L N C B X FB pa pc bs Fs ta tc s) (b1 : Below w.heap.size w w1) (p1 : _root_.Go.Proofs.YtddchcekljndmaaGreat.Pi.Pp w1 B1 F1 st) (n1 : ∀ k, F1 k → w.heap.size ≤ k) (hk : k < 8) :
    ∃ col', LX (w1.setCell ⟨X, k, none⟩ (.pointer (some ⟨B1, 0, none⟩))) col' L N C B X FB pa pc (bs.set k (some B1)) (Fk.up Fs k F1) ta tc { s with sts := s.sts.set k (some st) } ∧ Tr col col' w (w1.setCell ⟨X, k, none⟩ (.pointer (some ⟨B1, 0, none⟩))) := by
  obtain ⟨col', o, nn, _⟩ := ext_ex w col F1 4
  have kb := (KB.refl X w1).setCell k (.pointer (some ⟨B1, 0, none⟩))
  have c : Ch (fun c => c = 3) col col' w (w1.setCell ⟨X, k, none⟩ (.pointer (some ⟨B1, 0, none⟩))) :=
    ⟨kb.os.trans b1.os, kb.tape.trans b1.tape, kb.output.trans b1.output, Nat.le_trans b1.size kb.size, fun x hx hc => (kb.block x (Nat.lt_of_lt_of_le hx b1.size) (fun e => hc (by rw [e]; exact h.c3))).trans (b1.block x hx), o⟩
  have hX : X < w.heap.size := heap_lt h.rw
  have hrow : (w1.setCell ⟨X, k, none⟩ (.pointer (some ⟨B1, 0, none⟩))).heap[X]? = some (.cells ((bs.set k (some B1)).map Pe.pt).toArray 150 (0, 0)) := by
    rw [Ba.heap_setCell_same (heap_below h.rw b1)]
    simp [List.map_set, Pe.pt]
  have sm1 : ∀ i, Sm (Fs i) w (w1.setCell ⟨X, k, none⟩ (.pointer (some ⟨B1, 0, none⟩))) := fun i x hx => c.block x (h.qs.bd i x hx) (by rw [h.c4 i x hx]; simp)
  have sm2 : Sm F1 w1 (w1.setCell ⟨X, k, none⟩ (.pointer (some ⟨B1, 0, none⟩))) := fun x hx => kb.block x (p1.bd x hx) (fun e => by have := n1 x hx; omega)
  have hq : Fk.Qs _root_.Go.Proofs.YtddchcekljndmaaGreat.Pi.Pp (w1.setCell ⟨X, k, none⟩ (.pointer (some ⟨B1, 0, none⟩))) (some ⟨X, 0, none⟩) (bs.set k (some B1)) (Fk.up Fs k F1) (s.sts.set k (some st)) := by
    have hkb : k < bs.length := by rw [h.bl]; exact hk
    have hks : k < s.sts.length := by rw [← h.qs.len]; exact hkb
    refine ⟨pr_row hrow, by rw [List.length_set, List.length_set]; exact h.qs.len, fun i D hi => ?_, fun i hi => ?_, fun i j hij x hx => ?_, fun a e i => ?_, fun i => ?_⟩
    · by_cases e : i = k
      · subst e
        rw [List.getElem?_set_self hkb] at hi
        cases hi
        exact ⟨st, List.getElem?_set_self hks, by rw [Fk.up_same]; exact p1.sm sm2⟩
      · rw [List.getElem?_set_ne (Ne.symm e)] at hi
        obtain ⟨st1, e1, q1⟩ := h.qs.one i D hi
        exact ⟨st1, by rw [List.getElem?_set_ne (Ne.symm e)]; exact e1, by rw [Fk.up_other _ _ _ _ e]; exact q1.sm (sm1 i)⟩
    · by_cases e : i = k
      · subst e
        rw [List.getElem?_set_self hkb] at hi
        cases hi
      · rw [List.getElem?_set_ne (Ne.symm e)] at hi ⊢
        exact h.qs.non i hi
    · by_cases e1 : i = k
      · subst e1
        rw [Fk.up_same] at hx
        rw [Fk.up_other _ _ _ _ (Ne.symm hij)]
        intro hf
        have := n1 x hx
        have := h.qs.bd j x hf
        omega
      · rw [Fk.up_other _ _ _ _ e1] at hx
        by_cases e2 : j = k
        · subst e2
          rw [Fk.up_same]
          intro hf
          have := n1 x hf
          have := h.qs.bd i x hx
          omega
        · rw [Fk.up_other _ _ _ _ e2]
          exact h.qs.ap i j hij x hx
    · cases e
      by_cases e1 : i = k
      · subst e1
        rw [Fk.up_same]
        intro hf
        have := n1 X hf
        omega
      · rw [Fk.up_other _ _ _ _ e1]
        exact h.qs.nr _ rfl i
    · by_cases e1 : i = k
      · subst e1
        rw [Fk.up_same]
        exact p1.bd.sm sm2
      · rw [Fk.up_other _ _ _ _ e1]
        exact (h.qs.bd i).sm (sm1 i)
  refine ⟨col', ⟨h.keepHp c (by simp), h.nml, h.keepPs c (by simp), h.keepCu c (by simp), h.nc, h.keepCr c (by simp), hrow, hq, by rw [List.length_set]; exact h.bl, h.keepTr c (by simp), h.k0 c, h.k1 c, h.k2 c, h.k3 c, fun i x hx => ?_, h.k5 c⟩, c.tr (fun _ (e : _ = _) => by omega)⟩
  by_cases e1 : i = k
  · subst e1
    rw [Fk.up_same] at hx
    exact nn x (n1 x hx) hx
  · rw [Fk.up_other _ _ _ _ e1] at hx
    exact h.k4 c i x hx
theorem eight {l : List Int} (h : l.length = 8) : ∃ a0 a1 a2 a3 a4 a5 a6 a7, l = [a0, a1, a2, a3, a4, a5, a6, a7] := by
  match l, h with
  | [a0, a1, a2, a3, a4, a5, a6, a7], _ => exact ⟨a0, a1, a2, a3, a4, a5, a6, a7, rfl⟩
theorem lcs_num (pa : Option Addr) (n pc C B X : Nat) (nm : List Int) (md : Int) (ta : Option Addr) (tn tc : Nat) (pk : Bool) (k : Nat) (v : Int) (hl : nm.length = 8) (hk : k < 8) :
    (lcs pa n pc C B X nm md ta tn tc pk).setIfInBounds (4 + k) (.int .i64 v) = lcs pa n pc C B X (nm.set k v) md ta tn tc pk := by
  obtain ⟨a0, a1, a2, a3, a4, a5, a6, a7, rfl⟩ := eight hl
  rcases (show k = 0 ∨ k = 1 ∨ k = 2 ∨ k = 3 ∨ k = 4 ∨ k = 5 ∨ k = 6 ∨ k = 7 by omega) with rfl | rfl | rfl | rfl | rfl | rfl | rfl | rfl <;> rfl
end
theorem isParked_any (L : Nat) (col : Nat → Nat) (s : Lm) (g : Int) (w : World) (h : LW w col L s) :
    Calls Tryz.prog 99 #[.pointer (some ⟨L, 0, none⟩), .int .i64 g] w fun r w' => r = .returned (.bool (parked s g)) ∧ w' = w := by
  obtain ⟨N, C, B, X, FB, pa, pc, bs, Fs, ta, tc, h⟩ := h
  obtain ⟨-, -, y2, -⟩ := h.cells
  have ST := hide (Cr.state_any B FB s.cr g w h.cr)
  unfold parked
  clear h
  generalize (Cr.one0 (Cr.gt s.cr g)).s = x at ST ⊢
  go_enter Tryz.func99, Tryz.ntmps99
  go_wp2_with fail
  refine ST.out.mono ?_
  rintro r w1 ⟨rfl, rfl⟩
  go_wp2_with fail
  go_ret
  exact ⟨rfl, rfl⟩
theorem heap_new3 (w : World) (a b c : Obj) : (((w.alloc a).alloc b).alloc c).heap[w.heap.size + 1 + 1]? = some c := by
  have := heap_new ((w.alloc a).alloc b) c
  rw [World.size_alloc, World.size_alloc] at this
  exact this
theorem service_any (e : Ev) (t : Gt) (w : World) :
    Calls Tryz.prog 115 #[En.evv e, _root_.Go.Proofs.YtddchcekljndmaaGreat.Pi.gv t] w fun r w' => r = .returned (En.evv (servV e t)) ∧ Below w.heap.size w w' := by
  unfold En.evv En.evc _root_.Go.Proofs.YtddchcekljndmaaGreat.Pi.gv servV
  cases hs : e.s
  · go_enter Tryz.func115, Tryz.ntmps115
    go_wp2_with fail
    refine bodyPost_ret (En.results_row1 Tryz.results115 _ _ _ _ rfl (En.loadVar_ev (heap_below (heap_new3 _ _ _ _) (btr (below_alloc _ _) (below_alloc _ _))) rfl)) rfl ⟨rfl, btr (btr (btr (btr (below_alloc _ _) (below_alloc _ _)) (below_alloc _ _)) (below_alloc _ _)) (below_alloc _ _)⟩
  · go_enter Tryz.func115, Tryz.ntmps115
    go_wp2_with fail
    refine bodyPost_ret (En.results_row1 Tryz.results115 _ _ _ _ rfl (En.loadVar_ev (heap_below (heap_new3 _ _ _ _) (btr (below_alloc _ _) (below_alloc _ _))) rfl)) rfl ⟨rfl, btr (btr (btr (btr (below_alloc _ _) (below_alloc _ _)) (below_alloc _ _)) (below_alloc _ _)) (below_alloc _ _)⟩
end Lo
end Go.Proofs.YtddchcekljndmaaGreat
/- A loom wakes one that waited; a name has a new channel, over this seat's program. -/
namespace Go.Proofs.YtddchcekljndmaaGreat
open Go.ChangeShapes Go.WideShapes Go.ChangeAt Go.RowKit
namespace Lo
open Ba

set_option maxRecDepth 100000 in
set_option maxHeartbeats 1600000 in
theorem wakes_any (L : Nat) (col : Nat → Nat) (s : Lm) (K : Nat) (e : Ev) (w : World) (h : LW w col L s) (hn : Cr.Bn K s.cr) (hK : K ≤ 100000) (ht : s.tr.length ≤ 1000000) :
    Calls Tryz.prog 100 #[.pointer (some ⟨L, 0, none⟩), En.evv e] w fun r w' => r = .returned (.tuple #[]) ∧ ∃ col', LW w' col' L (wakesS s e) ∧ Tr col col' w w' := by
  obtain ⟨N, C, B, X, FB, pa, pc, bs, Fs, ta, tc, h⟩ := h
  obtain ⟨col1, h1, t1, n1⟩ := h.below (btr (below_alloc w (.cells #[.int .i64 e.k, .int .i64 e.g, .int .i64 e.c, .int .i64 e.a, .int .i64 e.v, .int .i64 e.m, .bool e.s, .bool e.o] 66)) (bdrew1 _))
  have T1 := hide t1
  have H1 := hide h1
  have E1 := hide (heap_below (heap_new w (.cells #[.int .i64 e.k, .int .i64 e.g, .int .i64 e.c, .int .i64 e.a, .int .i64 e.v, .int .i64 e.m, .bool e.s, .bool e.o] 66)) (bdrew1 _))
  have y3 : w.cell? ⟨L, 3, none⟩ = some (.slice (some ⟨X, 0, none⟩) 8 8) := cell_of h.hp 3
  have hL := h.lt
  have N1 := hide (n1 w.heap.size (Nat.le_refl _))
  have LV := hide (Fk.leave_any e.g (some ⟨X, 0, none⟩) bs 8 Fs s.sts ((w.alloc (.cells #[.int .i64 e.k, .int .i64 e.g, .int .i64 e.c, .int .i64 e.a, .int .i64 e.v, .int .i64 e.m, .bool e.s, .bool e.o] 66)).drew) h1.qs (by rw [h.bl]; omega))
  rw [h.bl] at LV
  unfold En.evv En.evc
  clear h t1 h1 n1
  go_enter Tryz.func100, Tryz.ntmps100
  go_wp2_with fail
  go_region_held3 (fun w' => w'.cell? ⟨w.heap.size, 1, none⟩ = some (.int .i64 e.g) ∧ w'.cell? ⟨L, 3, none⟩ = some (.slice (some ⟨X, 0, none⟩) 8 8))
    (go_keep)
    (first | (go_at_call 124; refine LV.out.mono ?_; rintro r w2 ⟨rfl, p2⟩; obtain ⟨Fs2, col2, h2, t2⟩ := H1.out.pipes p2; have z1 : w2.cell? ⟨w.heap.size, 1, none⟩ = some (.int .i64 e.g) := cell_of (t2.heap E1.out N1.out) 1; have z3 : w2.cell? ⟨L, 3, none⟩ = some (.slice (some ⟨X, 0, none⟩) 8 8) := cell_of h2.hp 3))
  have E2 := hide (t2.heap E1.out N1.out)
  have N2 : Hid (col2 w.heap.size = 7) := (t2.old _ (heap_lt E1.out)).trans N1.out
  obtain ⟨col3, h3, t3, n3⟩ := h2.below (bdrew1 w2)
  have T3 := hide (T1.out.trans (t2.trans t3))
  have H3 := hide h3
  have E3 := hide (t3.heap E2.out N2.out)
  have N3 : Hid (col3 w.heap.size = 7) := (t3.old _ (heap_lt E2.out)).trans N2.out
  have y2 : w2.cell? ⟨L, 2, none⟩ = some (.pointer (some ⟨B, 0, none⟩)) := cell_of h2.hp 2
  have WK := hide (Cr.wake_any B FB s.cr K e.g w2.drew h3.cr hn hK)
  clear p2 h2 t2 h3 t3 n3 T1 H1 E1 E2 N1 N2 LV y3 z3
  go_wp2_with fail
  go_region_held3 (fun w' => w'.cell? ⟨w.heap.size, 1, none⟩ = some (.int .i64 e.g) ∧ w'.cell? ⟨L, 2, none⟩ = some (.pointer (some ⟨B, 0, none⟩)))
    (go_keep)
    (first | (go_at_call 125; refine WK.out.mono ?_; rintro r w4 ⟨rfl, p4⟩; obtain ⟨FB4, col4, h4, t4⟩ := H3.out.crew p4; have z1 : w4.cell? ⟨w.heap.size, 1, none⟩ = some (.int .i64 e.g) := cell_of (t4.heap E3.out N3.out) 1; have z3 : w4.cell? ⟨L, 2, none⟩ = some (.pointer (some ⟨B, 0, none⟩)) := cell_of h4.hp 2))
  have T4 := hide (T3.out.trans t4)
  have E4 := hide (t4.heap E3.out N3.out)
  have TE := hide (tell_any L col4 _ e w4 h4.lw ht)
  unfold En.evv En.evc at TE
  have a0 := cell_of E4.out 0
  have a1 := cell_of E4.out 1
  have a2 := cell_of E4.out 2
  have a3 := cell_of E4.out 3
  have a4 := cell_of E4.out 4
  have a5 := cell_of E4.out 5
  have a6 := cell_of E4.out 6
  have a7 := cell_of E4.out 7
  simp at a0 a1 a2 a3 a4 a5 a6 a7
  clear p4 h4 t4 WK H3 T3 E3 N3 z1 z3
  go_wp2_with fail
  refine TE.out.mono ?_
  rintro r w5 ⟨rfl, col5, h5, t5⟩
  have H5 := hide h5
  have T5 := hide (T4.out.trans t5)
  clear h5 t5
  go_wp2_with fail
  go_end0
  exact ⟨rfl, col5, H5.out, T5.out⟩
set_option maxRecDepth 100000 in
set_option maxHeartbeats 1600000 in
theorem opens_any (L : Nat) (col : Nat → Nat) (s : Lm) (k z : Nat) (w : World) (h : LW w col L s) (hk : k < 8) (hz : z ≤ 4) (hm : 0 ≤ s.md ∧ s.md ≤ 1000000) :
    Calls Tryz.prog 69 #[.pointer (some ⟨L, 0, none⟩), .int .i64 (k : Int), .int .i64 (z : Int)] w fun r w' => r = .returned (.int .i64 s.md) ∧ ∃ col', LW w' col' L (opensS s k z) ∧ Tr col col' w w' := by
  obtain ⟨N, C, B, X, FB, pa, pc, bs, Fs, ta, tc, h⟩ := h
  have H := hide h
  have y3 : w.cell? ⟨L, 3, none⟩ = some (.slice (some ⟨X, 0, none⟩) 8 8) := cell_of h.hp 3
  have hL := h.lt
  have hX : X < w.heap.size := heap_lt h.rw
  have hXL : X ≠ L := fun e => by have := h.c3; rw [e, h.c0] at this; omega
  obtain ⟨o, -, x0⟩ := h.at hk
  have xf : w.frozen? ⟨X, k, none⟩ = false := frozen_of h.rw k
  have k0 : (0 : Int) ≤ (k : Int) := by omega
  have k8 : (k : Int) < 8 := by omega
  obtain ⟨hm0, hm1⟩ := hm
  clear h
  go_enter Tryz.func69, Tryz.ntmps69
  go_wp2_with fail
  go_region_held3 (fun w' => w'.cell? ⟨L, 3, none⟩ = some (.slice (some ⟨X, 0, none⟩) 8 8))
    (go_keep)
    (first | (go_at_call 93; refine (_root_.Go.Proofs.YtddchcekljndmaaGreat.Pi.new_ok z _ hz).mono ?_; rintro r w1 ⟨B1, F1, rfl, p1, n1, b1⟩; have z3 : w1.cell? ⟨L, 3, none⟩ = some (.slice (some ⟨X, 0, none⟩) 8 8) := cell_of (heap_below H.out.hp (btr (bdrew1 w) b1)) 3; have x1 : w1.cell? ⟨X, k, none⟩ = some (Pe.pt o) := (cell_of (heap_below H.out.rw (btr (bdrew1 w) b1)) k).trans ((cell_of H.out.rw k).symm.trans x0); have xf1 : w1.frozen? ⟨X, k, none⟩ = false := frozen_of (heap_below H.out.rw (btr (bdrew1 w) b1)) k))
  obtain ⟨col2, h2, t2⟩ := H.out.opened (btr (bdrew1 w) b1) p1 n1 hk
  generalize w1.setCell ⟨X, k, none⟩ (.pointer (some ⟨B1, 0, none⟩)) = w2 at *
  have m0 : w2.cell? ⟨L, 12, none⟩ = some (.int .i64 s.md) := cell_of h2.hp 12
  have u0 : w2.cell? ⟨L, 4 + k, none⟩ = some (.int .i64 (nth s.nm k)) := h2.num hk
  have uf : w2.frozen? ⟨L, 4 + k, none⟩ = false := frozen_of h2.hp (4 + k)
  have hL2 := h2.lt
  obtain ⟨h3, t3⟩ := LX.self (s' := { s with sts := s.sts.set k (some (_root_.Go.Proofs.YtddchcekljndmaaGreat.Pi.st0 z)), nm := s.nm.set k s.md }) h2 rfl (by rw [List.length_set]; exact h2.nml) (lcs_num _ _ _ _ _ _ _ _ _ _ _ _ k s.md h2.nml hk)
  obtain ⟨col4, h4, t4, -⟩ := h3.below (bdrew1 _)
  have T4 := hide (t2.trans (t3.trans t4))
  have m2 : (w2.setCell ⟨L, 4 + k, none⟩ (.int .i64 s.md)).drew.cell? ⟨L, 12, none⟩ = some (.int .i64 s.md) := cell_of h4.hp 12
  have NL := hide h2.nml
  have H4 := hide h4
  clear h2 t2 h3 t3 h4 t4 p1 n1 b1 z3 x1 xf1 x0 xf y3 H hX hXL hL
  go_wp2_with fail
  go_region_held3 (fun w' => w'.cell? ⟨L, 12, none⟩ = some (.int .i64 s.md))
    (first | go_keep | exact m2)
    (fail)
  have h4 := H4.out
  generalize (w2.setCell ⟨L, 4 + k, none⟩ (.int .i64 s.md)).drew = w4 at *
  have m4 : w4.cell? ⟨L, 12, none⟩ = some (.int .i64 s.md) := cell_of h4.hp 12
  have f4 : w4.frozen? ⟨L, 12, none⟩ = false := frozen_of h4.hp 12
  have u4 : w4.cell? ⟨L, 4 + k, none⟩ = some (.int .i64 s.md) := (h4.num hk).trans (by
    have hl : k < s.nm.length := by rw [NL.out]; exact hk
    have hl2 : k < (s.nm.set k s.md).length := by rw [List.length_set]; exact hl
    show some (Value.int .i64 (nth (s.nm.set k s.md) k)) = _
    rw [nth_lt _ _ hl2]
    simp)
  obtain ⟨h5, t5⟩ := LX.self (s' := { s with sts := s.sts.set k (some (_root_.Go.Proofs.YtddchcekljndmaaGreat.Pi.st0 z)), nm := s.nm.set k s.md, md := s.md + 1 }) (i := 12) (v := .int .i64 (s.md + 1)) h4 rfl h4.nml rfl
  have T5 := hide (T4.out.trans t5)
  have H5 := hide h5
  have hne : ¬ (4 + k = 12) := by omega
  clear h4 h5 t5 m0 u0 uf H4 T4 m2
  go_wp2_with fail
  go_ret
  exact ⟨rfl, col4, (by simpa [opensS] using H5.out.lw), T5.out⟩
end Lo
end Go.Proofs.YtddchcekljndmaaGreat
/- A loom tries a send or receive, over this seat's program. -/
namespace Go.Proofs.YtddchcekljndmaaGreat
open Go.ChangeShapes Go.WideShapes Go.ChangeAt Go.RowKit
namespace Lo
open Ba

theorem set7 {w : World} {b i z : Nat} {v u0 u1 u2 u3 u4 u5 u6 : Value} (h : w.cell? ⟨b, i, none⟩ = some v) (hn : b ≠ z) : (((((((w.setCell ⟨z, 0, none⟩ u0).setCell ⟨z, 1, none⟩ u1).setCell ⟨z, 2, none⟩ u2).setCell ⟨z, 3, none⟩ u3).setCell ⟨z, 4, none⟩ u4).setCell ⟨z, 5, none⟩ u5).setCell ⟨z, 6, none⟩ u6).cell? ⟨b, i, none⟩ = some v := by
  have K := (((((((KB.refl z w).setCell 0 u0).setCell 1 u1).setCell 2 u2).setCell 3 u3).setCell 4 u4).setCell 5 u5).setCell 6 u6
  rw [← h]
  have := K.block b (World.block_lt_of_cell? w _ h) hn
  simp only [World.cell?, this]
theorem kset1 {w : World} {b i z : Nat} {v : Value} (h : w.cell? ⟨b, i, none⟩ = some v) (hn : b ≠ z) {i1 : Nat} {u1 : Value} : (w.setCell ⟨z, i1, none⟩ u1).cell? ⟨b, i, none⟩ = some v := by
  have K := (KB.refl z w).setCell i1 u1
  rw [← h]
  have := K.block b (World.block_lt_of_cell? w _ h) hn
  simp only [World.cell?, this]
/-- what the walks ask of a state -/
structure Ok (K : Nat) (s : Lm) : Prop where
  cb : Cr.Bn K s.cr
  tn : s.tr.length ≤ K
  sm : Fk.Sml s.sts
  wl : ∀ (i : Nat) (st : St), s.sts[i]? = some (some st) → ∀ b, (_root_.Go.Proofs.YtddchcekljndmaaGreat.Pi.own st b).length ≤ 1000
  md : 0 ≤ s.md ∧ s.md ≤ 1000
  dd : ∀ x ∈ s.d, 0 ≤ x

set_option maxRecDepth 100000 in
set_option maxHeartbeats 3200000 in
theorem try_any (L : Nat) (col : Nat → Nat) (s : Lm) (K : Nat) (g at_ : Int) (sd : Bool) (k : Nat) (v : Int) (w : World) (h : LW w col L s) (ok : Ok K s) (hK : K ≤ 99000) (hk : k < 8) :
    Calls Tryz.prog 95 #[.pointer (some ⟨L, 0, none⟩), .int .i64 g, .int .i64 at_, .agg #[.bool sd, .int .i64 (k : Int), .int .i64 v]] w fun r w' => r = .returned (.tuple #[.bool (tryF s g at_ ⟨sd, k, v⟩).done, .bool (tryF s g at_ ⟨sd, k, v⟩).fine]) ∧ ∃ col', LW w' col' L (tryF s g at_ ⟨sd, k, v⟩).s ∧ Tr col col' w w' := by
  obtain ⟨N, C, B, X, FB, pa, pc, bs, Fs, ta, tc, h⟩ := h
  obtain ⟨col1, h1, t1, n1⟩ := h.below (below_alloc w (.cells #[.bool sd, .int .i64 (k : Int), .int .i64 v] 92))
  have T1 := hide t1
  have H1 := hide h1
  have E1 := hide (heap_new w (.cells #[.bool sd, .int .i64 (k : Int), .int .i64 v] 92))
  have N1 := hide (n1 w.heap.size (Nat.le_refl _))
  have y3 : w.cell? ⟨L, 3, none⟩ = some (.slice (some ⟨X, 0, none⟩) 8 8) := cell_of h.hp 3
  have hL := h.lt
  have hb8 := h.bl
  have TY := hide fun u (hb : Below (w.alloc (.cells #[.bool sd, .int .i64 (k : Int), .int .i64 v] 92)).heap.size (w.alloc (.cells #[.bool sd, .int .i64 (k : Int), .int .i64 v] 92)) u) => Fk.ftry_any ⟨sd, k, v⟩ (some ⟨X, 0, none⟩) bs 8 Fs s.sts u (H1.out.qs.below Fk.frP hb) ok.sm
  rw [hb8] at TY
  have OK := hide ok
  obtain ⟨R, hR⟩ : ∃ R, tryF s g at_ ⟨sd, k, v⟩ = R := ⟨_, rfl⟩
  rw [hR]
  unfold tryF at hR
  unfold Fk.cv at TY
  clear h t1 h1 n1 ok hb8
  generalize Fk.tryG s.sts ⟨sd, k, v⟩ = t at TY hR
  generalize Fk.tryE s.sts ⟨sd, k, v⟩ = er at TY hR
  generalize Fk.tryS s.sts ⟨sd, k, v⟩ = sts' at TY hR
  have HR := hide hR
  clear hR
  unfold _root_.Go.Proofs.YtddchcekljndmaaGreat.Pi.gv at TY
  go_enter Tryz.func95, Tryz.ntmps95
  go_wp2_with fail
  go_region_held3 (fun w' => w'.cell? ⟨w.heap.size, 0, none⟩ = some (.bool sd) ∧ w'.cell? ⟨w.heap.size, 1, none⟩ = some (.int .i64 (k : Int)) ∧ w'.cell? ⟨w.heap.size, 2, none⟩ = some (.int .i64 v) ∧ w'.cell? ⟨L, 3, none⟩ = some (.slice (some ⟨X, 0, none⟩) 8 8))
    (first | (go_keep; done) | (exact ⟨set7 z0 (by omega), set7 z1 (by omega), set7 z2 (by omega), set7 z3 (by omega)⟩))
    (first
      | (go_at_call 114; refine (TY.out _ (bdrew1 _)).mono ?_; rintro r w2 ⟨rfl, p2⟩; obtain ⟨Fs2, col2, h2, t2, m2⟩ := H1.out.pipes2 (bdrew1 _) p2; have E2 := hide (t2.heap E1.out N1.out); have z0 : w2.cell? ⟨w.heap.size, 0, none⟩ = some (.bool sd) := cell_of E2.out 0; have z1 : w2.cell? ⟨w.heap.size, 1, none⟩ = some (.int .i64 (k : Int)) := cell_of E2.out 1; have z2 : w2.cell? ⟨w.heap.size, 2, none⟩ = some (.int .i64 v) := cell_of E2.out 2; have z3 : w2.cell? ⟨L, 3, none⟩ = some (.slice (some ⟨X, 0, none⟩) 8 8) := cell_of h2.hp 3; have hL2 := h2.lt; have hE2 : w.heap.size < w2.heap.size := heap_lt E2.out)
      | (go_at_call 114; refine (TY.out _ (btr (below_alloc _ _) (bdrew1 _))).mono ?_; rintro r w2 ⟨rfl, p2⟩; obtain ⟨Fs2, col2, h2, t2, m2⟩ := H1.out.pipes2 (btr (below_alloc _ _) (bdrew1 _)) p2; have E2 := hide (t2.heap E1.out N1.out); have z0 : w2.cell? ⟨w.heap.size, 0, none⟩ = some (.bool sd) := cell_of E2.out 0; have z1 : w2.cell? ⟨w.heap.size, 1, none⟩ = some (.int .i64 (k : Int)) := cell_of E2.out 1; have z2 : w2.cell? ⟨w.heap.size, 2, none⟩ = some (.int .i64 v) := cell_of E2.out 2; have z3 : w2.cell? ⟨L, 3, none⟩ = some (.slice (some ⟨X, 0, none⟩) 8 8) := cell_of h2.hp 3; have hL2 := h2.lt; have hE2 : w.heap.size < w2.heap.size := heap_lt E2.out; have G2 := hide ((m2 (w.heap.size + 1) (by rw [World.size_alloc]; omega) (heap_lt (heap_below (En.heap_new2 w (.cells #[.bool sd, .int .i64 (k : Int), .int .i64 v] 92) (.cells #[.bool false, .bool false, .bool false, .int .i64 0, .int .i64 0, .int .i64 0, .int .i64 0] 160)) (bdrew1 _)))).2.trans (heap_below (En.heap_new2 w (.cells #[.bool sd, .int .i64 (k : Int), .int .i64 v] 92) (.cells #[.bool false, .bool false, .bool false, .int .i64 0, .int .i64 0, .int .i64 0, .int .i64 0] 160)) (bdrew1 _))); have g0 := cell_of G2.out 0; have f0 := frozen_of G2.out 0; have g1 := cell_of G2.out 1; have f1 := frozen_of G2.out 1; have g2 := cell_of G2.out 2; have f2 := frozen_of G2.out 2; have g3 := cell_of G2.out 3; have f3 := frozen_of G2.out 3; have g4 := cell_of G2.out 4; have f4 := frozen_of G2.out 4; have g5 := cell_of G2.out 5; have f5 := frozen_of G2.out 5; have g6 := cell_of G2.out 6; have f6 := frozen_of G2.out 6; simp at g0 g1 g2 g3 g4 g5 g6; have hG2 := heap_lt G2.out; have hLG : L ≠ w.heap.size + 1 := by omega))
  all_goals
    have N2 : Hid (col2 w.heap.size = 7) := (t2.old _ (heap_lt E1.out)).trans N1.out
    have T2 := hide (T1.out.trans t2)
  case' _ =>
    obtain ⟨col3, h3, t3, n3⟩ := h2.below (below_alloc w2 (.cells #[.bool t.rd, .bool t.ok, .bool t.wk, .int .i64 t.v, .int .i64 t.m.g, .int .i64 t.m.c, .int .i64 t.m.v] 160))
    have G3 := hide (heap_new w2 (.cells #[.bool t.rd, .bool t.ok, .bool t.wk, .int .i64 t.v, .int .i64 t.m.g, .int .i64 t.m.c, .int .i64 t.m.v] 160))
    have C3 := hide (n3 w2.heap.size (Nat.le_refl _))
    have E3 := hide (t3.heap E2.out N2.out)
    have N3 : Hid (col3 w.heap.size = 7) := (t3.old _ hE2).trans N2.out
    have T3 := hide (T2.out.trans t3)
    have H3 := hide h3
    have hne : w.heap.size < w2.heap.size := hE2
    clear m2 p2 h2 t2 h3 t3 n3 z0 z1 z2 z3 hL2 hE2 T1 T2 H1 E1 E2 N1 N2 TY
    rename_i hH2
    generalize w2.heap.size = Gb at *
    generalize w2.alloc (.cells #[.bool t.rd, .bool t.ok, .bool t.wk, .int .i64 t.v, .int .i64 t.m.g, .int .i64 t.m.c, .int .i64 t.m.v] 160) = w3 at *
  rotate_left
  case' _ =>
    have C := hide (m2 (w.heap.size + 1) (by rw [World.size_alloc]; omega) (heap_lt (heap_below (En.heap_new2 w (.cells #[.bool sd, .int .i64 (k : Int), .int .i64 v] 92) (.cells #[.bool false, .bool false, .bool false, .int .i64 0, .int .i64 0, .int .i64 0, .int .i64 0] 160)) (bdrew1 _)))).1
    have H3 := hide (((((((h2.temp (i := 0) (v := .bool t.rd) C.out).temp (i := 1) (v := .bool t.ok) C.out).temp (i := 2) (v := .bool t.wk) C.out).temp (i := 3) (v := .int .i64 t.v) C.out).temp (i := 4) (v := .int .i64 t.m.g) C.out).temp (i := 5) (v := .int .i64 t.m.c) C.out).temp (i := 6) (v := .int .i64 t.m.v) C.out)
    have hz : w.heap.size ≤ w.heap.size + 1 := by omega
    have T3 := hide (((((((T2.out.temp hz 0 (.bool t.rd)).temp hz 1 (.bool t.ok)).temp hz 2 (.bool t.wk)).temp hz 3 (.int .i64 t.v)).temp hz 4 (.int .i64 t.m.g)).temp hz 5 (.int .i64 t.m.c)).temp hz 6 (.int .i64 t.m.v))
    have K7 := (((((((KB.refl (w.heap.size + 1) w2).setCell 0 (.bool t.rd)).setCell 1 (.bool t.ok)).setCell 2 (.bool t.wk)).setCell 3 (.int .i64 t.v)).setCell 4 (.int .i64 t.m.g)).setCell 5 (.int .i64 t.m.c)).setCell 6 (.int .i64 t.m.v)
    have E3 := hide (K7.heap E2.out (by omega))
    have N3 := N2
    have G3 : Hid ((((((((w2.setCell ⟨w.heap.size + 1, 0, none⟩ (.bool t.rd)).setCell ⟨w.heap.size + 1, 1, none⟩ (.bool t.ok)).setCell ⟨w.heap.size + 1, 2, none⟩ (.bool t.wk)).setCell ⟨w.heap.size + 1, 3, none⟩ (.int .i64 t.v)).setCell ⟨w.heap.size + 1, 4, none⟩ (.int .i64 t.m.g)).setCell ⟨w.heap.size + 1, 5, none⟩ (.int .i64 t.m.c)).setCell ⟨w.heap.size + 1, 6, none⟩ (.int .i64 t.m.v)).heap[w.heap.size + 1]? = some (.cells #[.bool t.rd, .bool t.ok, .bool t.wk, .int .i64 t.v, .int .i64 t.m.g, .int .i64 t.m.c, .int .i64 t.m.v] 160 (0, 0))) := (Ba.heap_setCell_same (Ba.heap_setCell_same (Ba.heap_setCell_same (Ba.heap_setCell_same (Ba.heap_setCell_same (Ba.heap_setCell_same (Ba.heap_setCell_same G2.out _) _) _) _) _) _) _).trans rfl
    have C3 := C
    have hne : w.heap.size < w.heap.size + 1 := by omega
    clear K7 C hz m2 p2 h2 t2 z0 z1 z2 z3 hL2 hE2 T1 T2 H1 E1 E2 N1 N2 TY G2 g0 g1 g2 g3 g4 g5 g6 f0 f1 f2 f3 f4 f5 f6 hG2 hLG
    rename_i hH2
    generalize (((((((w2.setCell ⟨w.heap.size + 1, 0, none⟩ (.bool t.rd)).setCell ⟨w.heap.size + 1, 1, none⟩ (.bool t.ok)).setCell ⟨w.heap.size + 1, 2, none⟩ (.bool t.wk)).setCell ⟨w.heap.size + 1, 3, none⟩ (.int .i64 t.v)).setCell ⟨w.heap.size + 1, 4, none⟩ (.int .i64 t.m.g)).setCell ⟨w.heap.size + 1, 5, none⟩ (.int .i64 t.m.c)).setCell ⟨w.heap.size + 1, 6, none⟩ (.int .i64 t.m.v)) = w3 at *
    generalize w.heap.size + 1 = Gb at *
    generalize col2 = col3 at *
  all_goals
    obtain ⟨c0, c1, c2, -⟩ := hH2
    have q0 : w3.cell? ⟨Gb, 0, none⟩ = some (.bool t.rd) := cell_of G3.out 0
    have q1 : w3.cell? ⟨Gb, 1, none⟩ = some (.bool t.ok) := cell_of G3.out 1
    have q2 : w3.cell? ⟨Gb, 2, none⟩ = some (.bool t.wk) := cell_of G3.out 2
    have q3 : w3.cell? ⟨Gb, 3, none⟩ = some (.int .i64 t.v) := cell_of G3.out 3
    have q4 : w3.cell? ⟨Gb, 4, none⟩ = some (.int .i64 t.m.g) := cell_of G3.out 4
    have hR := HR.out
    by_cases h0 : er = 0
    · subst h0
      cases hrd : t.rd
      · rw [if_pos (.inr hrd)] at hR
        subst hR
        rw [hrd] at q0
        clear HR q1 q2 q3 q4 y3
        go_wp2_with fail
        go_ret2
        exact ⟨rfl, col3, H3.out.lw, T3.out⟩
      · rw [if_neg (by simp [hrd])] at hR
        rw [hrd] at q0
        have nu : w3.cell? ⟨L, 4 + k, none⟩ = some (.int .i64 (nth s.nm k)) := H3.out.num hk
        have k0 : (0 : Int) ≤ (k : Int) := by omega
        have k8 : (k : Int) < 8 := by omega
        have ne1 := World.new_ne w3 _ c1
        have ne2 := World.new_ne w3 _ nu
        have ne3 := World.new_ne w3 _ q3
        have ne4 := World.new_ne w3 _ q1
        clear HR y3
        go_wp2_with fail
        go_region_held3 (fun w' => w'.cell? ⟨w.heap.size, 1, none⟩ = some (.int .i64 (k : Int)) ∧ w'.cell? ⟨L, 4 + k, none⟩ = some (.int .i64 (nth s.nm k)) ∧ w'.cell? ⟨Gb, 3, none⟩ = some (.int .i64 t.v) ∧ w'.cell? ⟨Gb, 1, none⟩ = some (.bool t.ok))
          (go_keep)
          (fail)
        obtain ⟨col4, h4, t4, n4⟩ := H3.out.below (btr (below_alloc w3 (.cells #[.int .i64 4, .int .i64 g, .int .i64 (nth s.nm k), .int .i64 at_, .int .i64 t.v, .int .i64 (-1), .bool false, .bool t.ok] 66)) (bdrew1 _))
        have V4 := hide (heap_below (heap_new w3 (.cells #[.int .i64 4, .int .i64 g, .int .i64 (nth s.nm k), .int .i64 at_, .int .i64 t.v, .int .i64 (-1), .bool false, .bool t.ok] 66)) (bdrew1 _))
        have C4 := hide (n4 w3.heap.size (Nat.le_refl _))
        have G4 := hide (t4.heap G3.out C3.out)
        have D4 : Hid (col4 Gb = 7) := (t4.old _ (heap_lt G3.out)).trans C3.out
        have E4 := hide (t4.heap E3.out N3.out)
        have T4 := hide (T3.out.trans t4)
        have H4 := hide h4
        have hG3 := heap_lt G3.out
        have hz4 : w.heap.size ≤ w3.heap.size := by omega
        have hne4 : w.heap.size ≠ w3.heap.size := by omega
        have hne5 : Gb ≠ w3.heap.size := by omega
        rename_i hH3
        clear hH3 h4 t4 n4 H3 T3 E3 N3 G3 C3 c0 c1 c2 q0 q1 q2 q3 q4 nu ne1 ne2 ne3 ne4 hG3
        generalize (w3.alloc (.cells #[.int .i64 4, .int .i64 g, .int .i64 (nth s.nm k), .int .i64 at_, .int .i64 t.v, .int .i64 (-1), .bool false, .bool t.ok] 66)).drew = w4 at *
        generalize w3.heap.size = Eb at *
        have c0 : w4.cell? ⟨w.heap.size, 0, none⟩ = some (.bool sd) := cell_of E4.out 0
        have c2 : w4.cell? ⟨w.heap.size, 2, none⟩ = some (.int .i64 v) := cell_of E4.out 2
        have q2 : w4.cell? ⟨Gb, 2, none⟩ = some (.bool t.wk) := cell_of G4.out 2
        have q4 : w4.cell? ⟨Gb, 4, none⟩ = some (.int .i64 t.m.g) := cell_of G4.out 4
        have v0 := cell_of V4.out 0
        have v1 := cell_of V4.out 1
        have v2 := cell_of V4.out 2
        have v3 := cell_of V4.out 3
        have v4 := cell_of V4.out 4
        have v5 := cell_of V4.out 5
        have v6 := cell_of V4.out 6
        have v7 := cell_of V4.out 7
        have e0 := frozen_of V4.out 0
        have e4 := frozen_of V4.out 4
        have e5 := frozen_of V4.out 5
        have e6 := frozen_of V4.out 6
        simp at v0 v1 v2 v3 v4 v5 v6 v7
        cases sd
        · cases hw : t.wk
          · have hv : tryV s g at_ ⟨false, k, v⟩ t = (⟨4, g, nth s.nm k, at_, t.v, (-1), false, t.ok⟩ : Ev) := by simp [tryV, num, hw]
            rw [hw] at hR q2
            rw [hv] at hR
            have GO := hide (goes_any L col4 _ K (⟨4, g, nth s.nm k, at_, t.v, (-1), false, t.ok⟩ : Ev) _ H4.out.lw OK.out.cb (by omega) (by have := OK.out.tn; show s.tr.length ≤ _; omega))
            unfold En.evv En.evc at GO
            go_wp2_with fail
            refine GO.out.mono ?_
            rintro r w7 ⟨rfl, col7, h7, t7⟩
            have H7 := hide h7
            have T7 := hide (T4.out.trans t7)
            have G7 := hide (t7.heap G4.out D4.out)
            have x2 : w7.cell? ⟨Gb, 2, none⟩ = some (.bool t.wk) := cell_of G7.out 2
            rw [hw] at x2
            clear GO h7 t7 v0 v1 v2 v3 v4 v5 v6 v7 e5 q2 q4
            go_wp2_with fail
            simp only [Bool.false_eq_true, if_false] at hR
            subst hR
            go_ret2
            exact ⟨rfl, col7, H7.out, T7.out⟩
          · have hv : tryV s g at_ ⟨false, k, v⟩ t = (⟨4, g, nth s.nm k, at_, t.v, t.m.g, false, t.ok⟩ : Ev) := by simp [tryV, num, hw]
            rw [hw] at hR q2
            rw [hv] at hR
            have V6 := hide (Ba.heap_setCell_same V4.out (i := 5) (.int .i64 t.m.g))
            have H6 := hide (H4.out.temp (i := 5) (v := .int .i64 t.m.g) C4.out)
            have T6 := hide (T4.out.temp hz4 5 (.int .i64 t.m.g))
            have G6 := hide (((KB.refl Eb w4).setCell 5 (.int .i64 t.m.g)).heap G4.out hne5)
            have GO := hide (goes_any L col4 _ K (⟨4, g, nth s.nm k, at_, t.v, t.m.g, false, t.ok⟩ : Ev) _ H6.out.lw OK.out.cb (by omega) (by have := OK.out.tn; show s.tr.length ≤ _; omega))
            unfold En.evv En.evc at GO
            go_wp2_with fail
            refine GO.out.mono ?_
            rintro r w7 ⟨rfl, col7, h7, t7⟩
            have H7 := hide h7
            have T7 := hide (T6.out.trans t7)
            have G7 := hide (t7.heap G6.out D4.out)
            have x2 : w7.cell? ⟨Gb, 2, none⟩ = some (.bool t.wk) := cell_of G7.out 2
            rw [hw] at x2
            have V7 := hide (t7.heap V6.out C4.out)
            have x0 := cell_of G7.out 0
            have x1 := cell_of G7.out 1
            have x3 := cell_of G7.out 3
            have x4 := cell_of G7.out 4
            have x5 := cell_of G7.out 5
            have x6 := cell_of G7.out 6
            have y0 := cell_of V7.out 0
            have y1 := cell_of V7.out 1
            have y2 := cell_of V7.out 2
            have y3 := cell_of V7.out 3
            have y4 := cell_of V7.out 4
            have y5 := cell_of V7.out 5
            have y6 := cell_of V7.out 6
            have y7 := cell_of V7.out 7
            simp at x0 x1 x3 x4 x5 x6 y0 y1 y2 y3 y4 y5 y6 y7
            have SV := hide (service_any (⟨4, g, nth s.nm k, at_, t.v, t.m.g, false, t.ok⟩ : Ev) t w7)
            unfold En.evv En.evc _root_.Go.Proofs.YtddchcekljndmaaGreat.Pi.gv at SV
            have h0 : t.rd = true := hrd
            rw [hrd, hw] at SV
            clear GO h7 t7 v0 v1 v2 v3 v4 v5 v6 v7 e5 q2 q4
            go_wp2_with fail
            refine SV.out.mono ?_
            rintro r w8 ⟨rfl, b8⟩
            obtain ⟨col8, h8, t8, -⟩ := H7.out.below b8
            have T8 := hide (T7.out.trans t8)
            have WK := hide (wakes_any L col8 _ (K + 1) (servV (⟨4, g, nth s.nm k, at_, t.v, t.m.g, false, t.ok⟩ : Ev) t) w8 h8 (Cr.Bn.ch OK.out.cb g 0 0 1 (by omega) (by omega)) (by omega) (by have := OK.out.tn; show (s.tr ++ _).length ≤ _; simp; omega))
            unfold En.evv En.evc at WK
            clear h8 t8 b8 SV H7 T7 x0 x1 x2 x3 x4 x5 x6 y0 y1 y2 y3 y4 y5 y6 y7 V7 G7
            go_wp2_with fail
            refine WK.out.mono ?_
            rintro r w9 ⟨rfl, col9, h9, t9⟩
            have H9 := hide h9
            have T9 := hide (T8.out.trans t9)
            clear h9 t9 WK
            go_wp2_with fail
            simp only [if_true] at hR
            subst hR
            go_ret2
            exact ⟨rfl, col9, H9.out, T9.out⟩
        · cases hw : t.wk
          · have hv : tryV s g at_ ⟨true, k, v⟩ t = (⟨3, g, nth s.nm k, at_, v, (-1), true, t.ok⟩ : Ev) := by simp [tryV, num, hw]
            rw [hw] at hR q2
            rw [hv] at hR
            go_wp2_with fail
            go_region
            have V5 := hide (heap_below (Ba.heap_setCell_same (Ba.heap_setCell_same (Ba.heap_setCell_same V4.out (i := 0) (.int .i64 3)) (i := 4) (.int .i64 v)) (i := 6) (.bool true)) (bdrew1 _))
            have H5 := hide ((((H4.out.temp (i := 0) (v := .int .i64 3) C4.out).temp (i := 4) (v := .int .i64 v) C4.out).temp (i := 6) (v := .bool true) C4.out).drew)
            have T5 := hide (((T4.out.temp hz4 0 (.int .i64 3)).temp hz4 4 (.int .i64 v)).temp hz4 6 (.bool true)).drew
            have K5 := (((KB.refl Eb w4).setCell 0 (.int .i64 3)).setCell 4 (.int .i64 v)).setCell 6 (.bool true)
            have G5 := hide (heap_below (K5.heap G4.out hne5) (bdrew1 _))
            clear K5 V4 H4 T4 G4 E4 c0 c2 q2 q4 v0 v1 v2 v3 v4 v5 v6 v7 e0 e4 e5 e6
            generalize ((w4.setCell ⟨Eb, 0, none⟩ (.int .i64 3)).setCell ⟨Eb, 4, none⟩ (.int .i64 v)).setCell ⟨Eb, 6, none⟩ (.bool true) = w5z at *
            generalize w5z.drew = w5 at *
            have v0 := cell_of V5.out 0
            have v1 := cell_of V5.out 1
            have v2 := cell_of V5.out 2
            have v3 := cell_of V5.out 3
            have v4 := cell_of V5.out 4
            have v5 := cell_of V5.out 5
            have v6 := cell_of V5.out 6
            have v7 := cell_of V5.out 7
            have e5 := frozen_of V5.out 5
            have q2 : w5.cell? ⟨Gb, 2, none⟩ = some (.bool t.wk) := cell_of G5.out 2
            have q4 : w5.cell? ⟨Gb, 4, none⟩ = some (.int .i64 t.m.g) := cell_of G5.out 4
            rw [hw] at q2
            simp at v0 v1 v2 v3 v4 v5 v6 v7
            have GO := hide (goes_any L col4 _ K (⟨3, g, nth s.nm k, at_, v, (-1), true, t.ok⟩ : Ev) _ H5.out.lw OK.out.cb (by omega) (by have := OK.out.tn; show s.tr.length ≤ _; omega))
            unfold En.evv En.evc at GO
            go_wp2_with fail
            refine GO.out.mono ?_
            rintro r w7 ⟨rfl, col7, h7, t7⟩
            have H7 := hide h7
            have T7 := hide (T5.out.trans t7)
            have G7 := hide (t7.heap G5.out D4.out)
            have x2 : w7.cell? ⟨Gb, 2, none⟩ = some (.bool t.wk) := cell_of G7.out 2
            rw [hw] at x2
            clear GO h7 t7 v0 v1 v2 v3 v4 v5 v6 v7 e5 q2 q4
            go_wp2_with fail
            simp only [Bool.false_eq_true, if_false] at hR
            subst hR
            go_ret2
            exact ⟨rfl, col7, H7.out, T7.out⟩
          · have hv : tryV s g at_ ⟨true, k, v⟩ t = (⟨3, g, nth s.nm k, at_, v, t.m.g, true, t.ok⟩ : Ev) := by simp [tryV, num, hw]
            rw [hw] at hR q2
            rw [hv] at hR
            go_wp2_with fail
            go_region
            have V5 := hide (heap_below (Ba.heap_setCell_same (Ba.heap_setCell_same (Ba.heap_setCell_same V4.out (i := 0) (.int .i64 3)) (i := 4) (.int .i64 v)) (i := 6) (.bool true)) (bdrew1 _))
            have H5 := hide ((((H4.out.temp (i := 0) (v := .int .i64 3) C4.out).temp (i := 4) (v := .int .i64 v) C4.out).temp (i := 6) (v := .bool true) C4.out).drew)
            have T5 := hide (((T4.out.temp hz4 0 (.int .i64 3)).temp hz4 4 (.int .i64 v)).temp hz4 6 (.bool true)).drew
            have K5 := (((KB.refl Eb w4).setCell 0 (.int .i64 3)).setCell 4 (.int .i64 v)).setCell 6 (.bool true)
            have G5 := hide (heap_below (K5.heap G4.out hne5) (bdrew1 _))
            clear K5 V4 H4 T4 G4 E4 c0 c2 q2 q4 v0 v1 v2 v3 v4 v5 v6 v7 e0 e4 e5 e6
            generalize ((w4.setCell ⟨Eb, 0, none⟩ (.int .i64 3)).setCell ⟨Eb, 4, none⟩ (.int .i64 v)).setCell ⟨Eb, 6, none⟩ (.bool true) = w5z at *
            generalize w5z.drew = w5 at *
            have v0 := cell_of V5.out 0
            have v1 := cell_of V5.out 1
            have v2 := cell_of V5.out 2
            have v3 := cell_of V5.out 3
            have v4 := cell_of V5.out 4
            have v5 := cell_of V5.out 5
            have v6 := cell_of V5.out 6
            have v7 := cell_of V5.out 7
            have e5 := frozen_of V5.out 5
            have q2 : w5.cell? ⟨Gb, 2, none⟩ = some (.bool t.wk) := cell_of G5.out 2
            have q4 : w5.cell? ⟨Gb, 4, none⟩ = some (.int .i64 t.m.g) := cell_of G5.out 4
            rw [hw] at q2
            simp at v0 v1 v2 v3 v4 v5 v6 v7
            have V6 := hide (Ba.heap_setCell_same V5.out (i := 5) (.int .i64 t.m.g))
            have H6 := hide (H5.out.temp (i := 5) (v := .int .i64 t.m.g) C4.out)
            have T6 := hide (T5.out.temp hz4 5 (.int .i64 t.m.g))
            have G6 := hide (((KB.refl Eb w5).setCell 5 (.int .i64 t.m.g)).heap G5.out hne5)
            have GO := hide (goes_any L col4 _ K (⟨3, g, nth s.nm k, at_, v, t.m.g, true, t.ok⟩ : Ev) _ H6.out.lw OK.out.cb (by omega) (by have := OK.out.tn; show s.tr.length ≤ _; omega))
            unfold En.evv En.evc at GO
            go_wp2_with fail
            refine GO.out.mono ?_
            rintro r w7 ⟨rfl, col7, h7, t7⟩
            have H7 := hide h7
            have T7 := hide (T6.out.trans t7)
            have G7 := hide (t7.heap G6.out D4.out)
            have x2 : w7.cell? ⟨Gb, 2, none⟩ = some (.bool t.wk) := cell_of G7.out 2
            rw [hw] at x2
            have V7 := hide (t7.heap V6.out C4.out)
            have x0 := cell_of G7.out 0
            have x1 := cell_of G7.out 1
            have x3 := cell_of G7.out 3
            have x4 := cell_of G7.out 4
            have x5 := cell_of G7.out 5
            have x6 := cell_of G7.out 6
            have y0 := cell_of V7.out 0
            have y1 := cell_of V7.out 1
            have y2 := cell_of V7.out 2
            have y3 := cell_of V7.out 3
            have y4 := cell_of V7.out 4
            have y5 := cell_of V7.out 5
            have y6 := cell_of V7.out 6
            have y7 := cell_of V7.out 7
            simp at x0 x1 x3 x4 x5 x6 y0 y1 y2 y3 y4 y5 y6 y7
            have SV := hide (service_any (⟨3, g, nth s.nm k, at_, v, t.m.g, true, t.ok⟩ : Ev) t w7)
            unfold En.evv En.evc _root_.Go.Proofs.YtddchcekljndmaaGreat.Pi.gv at SV
            have h0 : t.rd = true := hrd
            rw [hrd, hw] at SV
            clear GO h7 t7 v0 v1 v2 v3 v4 v5 v6 v7 e5 q2 q4
            go_wp2_with fail
            refine SV.out.mono ?_
            rintro r w8 ⟨rfl, b8⟩
            obtain ⟨col8, h8, t8, -⟩ := H7.out.below b8
            have T8 := hide (T7.out.trans t8)
            have WK := hide (wakes_any L col8 _ (K + 1) (servV (⟨3, g, nth s.nm k, at_, v, t.m.g, true, t.ok⟩ : Ev) t) w8 h8 (Cr.Bn.ch OK.out.cb g 0 0 1 (by omega) (by omega)) (by omega) (by have := OK.out.tn; show (s.tr ++ _).length ≤ _; simp; omega))
            unfold En.evv En.evc at WK
            clear h8 t8 b8 SV H7 T7 x0 x1 x2 x3 x4 x5 x6 y0 y1 y2 y3 y4 y5 y6 y7 V7 G7
            go_wp2_with fail
            refine WK.out.mono ?_
            rintro r w9 ⟨rfl, col9, h9, t9⟩
            have H9 := hide h9
            have T9 := hide (T8.out.trans t9)
            clear h9 t9 WK
            go_wp2_with fail
            simp only [if_true] at hR
            subst hR
            go_ret2
            exact ⟨rfl, col9, H9.out, T9.out⟩
    · rw [if_pos (.inl h0)] at hR
      subst hR
      have h0' : (er == 0) = false := by simp [h0]
      have h0'' : (er != 0) = true := by simp [h0]
      clear HR q0 q1 q2 q3 q4 y3
      go_wp2_with fail
      go_ret2
      exact ⟨by simp, col3, H3.out.lw, T3.out⟩
end Lo
end Go.Proofs.YtddchcekljndmaaGreat
