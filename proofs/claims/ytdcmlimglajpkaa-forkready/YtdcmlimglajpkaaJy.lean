/- The laws' own pipes(), walked. -/
import Derived.Test.YtdcmlimglajpkaaJx
import Derived.Maps.AppendAt
namespace Go.Proofs.Ytdcmlimglajpkaa
open Go.ChangeShapes Go.WideShapes Go.ChangeAt Go.RowKit
namespace Fk
open Ba Pe _root_.Go.Proofs.Ytdcmlimglajpkaa.Pi Rp

theorem info_pp : (Try.prog.info? 55).map (fun i => (i.zero, i.size, i.bytes)) = some (some (.pointer none), 1, 8) := by kernel_rfl
theorem info_rp : (Try.prog.info? 59).map (fun i => (i.zero, i.size, i.bytes)) = some (some (.pointer none), 1, 8) := by kernel_rfl
def pc (bs : List (Option Nat)) : List Value := bs.map pt
theorem pc_app (bs : List (Option Nat)) (o : Option Nat) : pc bs ++ [pt o] = pc (bs ++ [o]) := by simp [pc]
/-- a row of one's own, of pointers -/
theorem own_pr {w : World} {base : Nat} {e : TypeId} {v : Value} {bs : List (Option Nat)} (h : w.ownsRow base e 1 v bs.length (pc bs)) : ∃ oa c, v = .slice oa bs.length c ∧ PR w oa bs ∧ ∀ a, oa = some a → v.ownBlock = some a.block ∧ a.block < w.heap.size := by
  rcases h.2 with ⟨rfl, h0⟩ | ⟨g, cap, cur, rfl, hbase, hg, hc, _, hcs, htk⟩
  · refine ⟨none, 0, by rw [h0], ?_, fun a e => by cases e⟩
    obtain rfl := List.eq_nil_of_length_eq_zero h0
    exact fun i o hi => by simp at hi
  · refine ⟨_, cap, rfl, ?_, fun a e => by cases e; exact ⟨rfl, heap_lt hg⟩⟩
    intro k o hk
    have hkl := (List.getElem?_eq_some_iff.1 hk).1
    refine ⟨g, 0, rfl, ?_⟩
    have q : (pc bs)[k]? = some (pt o) := by simp [pc, hk]
    rw [← htk, List.getElem?_take_of_lt (by omega)] at q
    rw [Nat.zero_add, cell_of hg]
    simpa using q
/-- a world that differs in one own block at most, and in new ones -/
theorem grown_heap {w w' : World} {o : Option Nat} (h : w.grownBy w' o) {x : Nat} (hx : x < w.heap.size) (hn : some x ≠ o) : w'.heap[x]? = w.heap[x]? := by
  exact h.block x hx hn
/-- the rows and the channels, as far as they are laid -/
structure Po (w u : World) (Z : Nat) (vP vW : Value) (cs ds : List (Option Nat)) (bs : List (Option Nat)) (Fs : Nat → Nat → Prop) (gs : List (Option Nat)) (Gs : Nat → Nat → Prop) (s : List (Option St)) : Prop where
  z : u.heap[Z]? = some (.cells #[vP, vW] 29 (0, 0))
  rp : u.ownsRow w.heap.size 55 1 vP cs.length (pc cs)
  rw : u.ownsRow w.heap.size 59 1 vW ds.length (pc ds)
  p : Hf Pp w u bs Fs s
  r : Hf Rr w u gs Gs s
  ap : ∀ x, All Fs x → ¬ All Gs x
  np : ∀ x, vP.ownBlock = some x → ¬ All Fs x ∧ ¬ All Gs x
  nw : ∀ x, vW.ownBlock = some x → ¬ All Fs x ∧ ¬ All Gs x
  nz : ¬ All Fs Z ∧ ¬ All Gs Z
  b : Below w.heap.size w u
  hz : w.heap.size ≤ Z
theorem Po.below {w u v : World} {Z : Nat} {vP vW : Value} {cs ds bs : List (Option Nat)} {Fs : Nat → Nat → Prop} {gs : List (Option Nat)} {Gs : Nat → Nat → Prop} {s : List (Option St)} (h : Po w u Z vP vW cs ds bs Fs gs Gs s) (hb : Below u.heap.size u v) : Po w v Z vP vW cs ds bs Fs gs Gs s :=
  ⟨heap_below h.z hb, own_below h.rp hb, own_below h.rw hb, h.p.below frP hb, h.r.below frR hb, h.ap, h.np, h.nw, h.nz, btr h.b hb, h.hz⟩
theorem ne_types : (29 : TypeId) ≠ 55 ∧ (29 : TypeId) ≠ 59 ∧ (55 : TypeId) ≠ 59 := by decide
/-- two rows of different types lie in different blocks -/
theorem rows_ne {w : World} {base : Nat} {v v' : Value} {e e' : TypeId} {n n' : Nat} {xs xs' : List Value} (h : w.ownsRow base e 1 v n xs) (h' : w.ownsRow base e' 1 v' n' xs') (hne : e' ≠ e) : v'.ownBlock = none ∨ v'.ownBlock ≠ v.ownBlock := by
  rcases h'.2 with ⟨rfl, _⟩ | ⟨g, cap, cur, rfl, _, hg, _⟩
  · exact .inl rfl
  · exact .inr (own_ty h hg hne)
theorem own_keep {w w' : World} {base : Nat} {e : TypeId} {size : Nat} {v : Value} {n : Nat} {xs : List Value} (h : w.ownsRow base e size v n xs) (hk : ∀ g, v.ownBlock = some g → w'.heap[g]? = w.heap[g]?) : w'.ownsRow base e size v n xs := by
  refine ⟨h.1, ?_⟩
  rcases h.2 with q | ⟨g, cap, cur, q1, q2, q3, q4⟩
  · exact .inl q
  · exact .inr ⟨g, cap, cur, q1, q2, (hk g (by rw [q1]; rfl)).trans q3, q4⟩
theorem own_lt {w : World} {base : Nat} {e : TypeId} {v : Value} {n : Nat} {xs : List Value} (h : w.ownsRow base e 1 v n xs) {g : Nat} (hg : v.ownBlock = some g) : base ≤ g ∧ g < w.heap.size := by
  rcases h.2 with ⟨rfl, _⟩ | ⟨b, cap, cur, rfl, hb, q, _⟩
  · cases hg
  · cases hg
    exact ⟨hb, heap_lt q⟩
theorem Po.app1 {w u w4 : World} {Z : Nat} {vP vW v' : Value} {cs ds bs : List (Option Nat)} {Fs : Nat → Nat → Prop} {gs : List (Option Nat)} {Gs : Nat → Nat → Prop} {s : List (Option St)} (h : Po w u Z vP vW cs ds bs Fs gs Gs s) {o : Option Nat} (ho : w4.ownsRow w.heap.size 55 1 v' (cs.length + 1) (pc cs ++ [pt o])) (hg : u.grownBy w4 vP.ownBlock) (ha : v'.ownBlock = vP.ownBlock ∨ v'.ownBlock = some u.heap.size) :
    w4.heap[Z]? = some (.cells #[vP, vW] 29 (0, 0)) ∧ Po w (w4.setCell ⟨Z, 0, none⟩ v') Z v' vW (cs ++ [o]) ds bs Fs gs Gs s := by
  have hZ := heap_lt h.z
  have z4 : w4.heap[Z]? = some (.cells #[vP, vW] 29 (0, 0)) := (hg.block Z hZ (own_ty h.rp h.z ne_types.1)).trans h.z
  have keep : ∀ x, All Fs x ∨ All Gs x → (w4.setCell ⟨Z, 0, none⟩ v').heap[x]? = u.heap[x]? := by
    intro x hx
    have hlt : x < u.heap.size := by
      rcases hx with q | q
      · exact h.p.bdA q
      · exact h.r.bdA q
    have hne : x ≠ Z := by
      rintro rfl
      rcases hx with q | q
      · exact h.nz.1 q
      · exact h.nz.2 q
    rw [Below.heap_setCell _ _ _ _ hne]
    refine hg.block x hlt ?_
    intro e
    have := h.np x e.symm
    rcases hx with q | q
    · exact this.1 q
    · exact this.2 q
  refine ⟨z4, ?_, ?_, ?_, h.p.sm frP (fun x hx => keep x (.inl hx)), h.r.sm frR (fun x hx => keep x (.inr hx)), h.ap, ?_, h.nw, h.nz, ?_, h.hz⟩
  · exact Ba.heap_setCell_same z4 v'
  · rw [← pc_app, List.length_append]
    refine own_keep ho fun g hgv => Below.heap_setCell _ _ _ _ ?_
    rintro rfl
    exact own_ty ho z4 ne_types.1 hgv.symm
  · refine own_keep h.rw fun g hgv => ?_
    have hgZ : g ≠ Z := by
      rintro rfl
      exact own_ty h.rw h.z ne_types.2.1 hgv.symm
    rw [Below.heap_setCell _ _ _ _ hgZ]
    refine hg.block g (own_lt h.rw hgv).2 ?_
    rcases rows_ne h.rp h.rw ne_types.2.2.symm with q | q
    · rw [q] at hgv
      cases hgv
    · rw [← hgv]
      exact q
  · intro x hx
    rcases ha with e | e
    · exact h.np x (e ▸ hx)
    · rw [e] at hx
      cases hx
      exact ⟨fun q => by have := h.p.bdA q; omega, fun q => by have := h.r.bdA q; omega⟩
  · exact (h.b.grown hg h.b.size (fun x hx => (own_lt h.rp hx).1)).setCell (p := ⟨Z, 0, none⟩) h.hz v'
theorem Po.app2 {w u w4 : World} {Z : Nat} {vP vW v' : Value} {cs ds bs : List (Option Nat)} {Fs : Nat → Nat → Prop} {gs : List (Option Nat)} {Gs : Nat → Nat → Prop} {s : List (Option St)} (h : Po w u Z vP vW cs ds bs Fs gs Gs s) {o : Option Nat} (ho : w4.ownsRow w.heap.size 59 1 v' (ds.length + 1) (pc ds ++ [pt o])) (hg : u.grownBy w4 vW.ownBlock) (ha : v'.ownBlock = vW.ownBlock ∨ v'.ownBlock = some u.heap.size) :
    w4.heap[Z]? = some (.cells #[vP, vW] 29 (0, 0)) ∧ Po w (w4.setCell ⟨Z, 1, none⟩ v') Z vP v' cs (ds ++ [o]) bs Fs gs Gs s := by
  have hZ := heap_lt h.z
  have z4 : w4.heap[Z]? = some (.cells #[vP, vW] 29 (0, 0)) := (hg.block Z hZ (own_ty h.rw h.z ne_types.2.1)).trans h.z
  have keep : ∀ x, All Fs x ∨ All Gs x → (w4.setCell ⟨Z, 1, none⟩ v').heap[x]? = u.heap[x]? := by
    intro x hx
    have hlt : x < u.heap.size := by
      rcases hx with q | q
      · exact h.p.bdA q
      · exact h.r.bdA q
    have hne : x ≠ Z := by
      rintro rfl
      rcases hx with q | q
      · exact h.nz.1 q
      · exact h.nz.2 q
    rw [Below.heap_setCell _ _ _ _ hne]
    refine hg.block x hlt ?_
    intro e
    have := h.nw x e.symm
    rcases hx with q | q
    · exact this.1 q
    · exact this.2 q
  refine ⟨z4, ?_, ?_, ?_, h.p.sm frP (fun x hx => keep x (.inl hx)), h.r.sm frR (fun x hx => keep x (.inr hx)), h.ap, h.np, ?_, h.nz, ?_, h.hz⟩
  · exact Ba.heap_setCell_same z4 v'
  · refine own_keep h.rp fun g hgv => ?_
    have hgZ : g ≠ Z := by
      rintro rfl
      exact own_ty h.rp h.z ne_types.1 hgv.symm
    rw [Below.heap_setCell _ _ _ _ hgZ]
    refine hg.block g (own_lt h.rp hgv).2 ?_
    rcases rows_ne h.rw h.rp ne_types.2.2 with q | q
    · rw [q] at hgv
      cases hgv
    · rw [← hgv]
      exact q
  · rw [← pc_app, List.length_append]
    refine own_keep ho fun g hgv => Below.heap_setCell _ _ _ _ ?_
    rintro rfl
    exact own_ty ho z4 ne_types.2.1 hgv.symm
  · intro x hx
    rcases ha with e | e
    · exact h.nw x (e ▸ hx)
    · rw [e] at hx
      cases hx
      exact ⟨fun q => by have := h.p.bdA q; omega, fun q => by have := h.r.bdA q; omega⟩
  · exact (h.b.grown hg h.b.size (fun x hx => (own_lt h.rw hx).1)).setCell (p := ⟨Z, 1, none⟩) h.hz v'
end Fk
end Go.Proofs.Ytdcmlimglajpkaa
