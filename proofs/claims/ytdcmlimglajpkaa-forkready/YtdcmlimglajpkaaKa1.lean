/- The laws' first half: pipes of capacities, and acts on them, one by one; ForkReady's walk. -/
import Derived.Test.YtdcmlimglajpkaaJz
namespace Go.Proofs.Ytdcmlimglajpkaa
open Go.ChangeShapes Go.WideShapes Go.ChangeAt Go.RowKit
namespace Fk
open Ba Pe _root_.Go.Proofs.Ytdcmlimglajpkaa.Pi Rp

theorem cap_cn (sizes : List Int) : Cn 0 (sizes.map capS) := by
  intro i st hi
  rw [List.getElem?_map] at hi
  cases h : sizes[i]? with
  | none => rw [h] at hi; cases hi
  | some n =>
    rw [h] at hi
    simp only [Option.map_some, Option.some.injEq] at hi
    unfold capS at hi
    split at hi
    · cases hi
      exact ⟨Nat.le_refl _, Nat.le_refl _, Nat.le_refl _, Nat.le_refl _⟩
    · cases hi
/-- behind k acts: the channels, and a block of the law's -/
structure Lw (w u : World) (D : Nat) (od : Obj) (oa : Option Addr) (bs : List (Option Nat)) (ob : Option Addr) (gs : List (Option Nat)) (k : Nat) (Fs Gs : Nat → Nat → Prop) (s : List (Option St)) : Prop where
  t : Tw w u oa bs Fs ob gs Gs s s
  d : u.heap[D]? = some od
  nd : ¬ All Fs D ∧ ¬ All Gs D
  c : Cn k s
theorem Lw.below {w u v : World} {D : Nat} {od : Obj} {oa : Option Addr} {bs : List (Option Nat)} {ob : Option Addr} {gs : List (Option Nat)} {k : Nat} {Fs Gs : Nat → Nat → Prop} {s : List (Option St)} (h : Lw w u D od oa bs ob gs k Fs Gs s) (hb : Below u.heap.size u v) : Lw w v D od oa bs ob gs k Fs Gs s := ⟨h.t.below hb, heap_below h.d hb, h.nd, h.c⟩
theorem Lw.act {w u v : World} {D : Nat} {od : Obj} {oa : Option Addr} {bs : List (Option Nat)} {ob : Option Addr} {gs : List (Option Nat)} {k : Nat} {Fs Gs : Nat → Nat → Prop} {s : List (Option St)} (h : Lw w u D od oa bs ob gs k Fs Gs s) {what g : Int} {c : Ca} {l : List Ca} (p : AcP w u v oa bs Fs ob gs Gs (actS what g c l s)) : ∃ Fs' Gs', Lw w v D od oa bs ob gs (k + 1) Fs' Gs' (actS what g c l s) := by
  obtain ⟨F', G', t, r⟩ := p
  exact ⟨F', G', t, r.heap h.d h.nd.1 h.nd.2, (r.2 D (heap_lt h.d) h.nd.1 h.nd.2).2, act_cn h.c what g c l⟩
/-- what was there ahead of the pipes is none of theirs -/
theorem Lw.out {w u : World} {D : Nat} {od : Obj} {oa : Option Addr} {bs : List (Option Nat)} {ob : Option Addr} {gs : List (Option Nat)} {k : Nat} {Fs Gs : Nat → Nat → Prop} {s : List (Option St)} (h : Lw w u D od oa bs ob gs k Fs Gs s) {la : Option Addr} {l : List Ca} (hC : CaAt w la l) : Out Fs Gs la l := by
  intro hl a e
  have := hC.lt hl a e
  exact ⟨fun q => by have := h.t.lf _ q; omega, fun q => by have := h.t.lg _ q; omega⟩
end Fk
end Go.Proofs.Ytdcmlimglajpkaa
