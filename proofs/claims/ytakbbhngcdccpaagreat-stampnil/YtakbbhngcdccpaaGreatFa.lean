/- Frames by footprint: what has changed lies in a set of blocks. -/
import Derived.Test.YtakbbhngcdccpaaGreatBs
namespace Go.Proofs.YtakbbhngcdccpaaGreat
open Go.ChangeShapes Go.WideShapes Go.ChangeAt Go.RowKit
namespace Ba

/-- from w to w' nothing has changed outside F, of what was there -/
structure KF (F : Nat → Prop) (w w' : World) : Prop where
  os : w'.os = w.os
  tape : w'.tape = w.tape
  output : w'.output = w.output
  size : w.heap.size ≤ w'.heap.size
  block : ∀ k, k < w.heap.size → ¬ F k → w'.heap[k]? = w.heap[k]?
/-- F' is F, and what is new since w -/
def Nw (F' F : Nat → Prop) (w : World) : Prop := ∀ k, F' k → F k ∨ w.heap.size ≤ k
/-- the blocks of F are as they were -/
def Sm (F : Nat → Prop) (w w' : World) : Prop := ∀ k, F k → w'.heap[k]? = w.heap[k]?
/-- the blocks of F are there -/
def Bd (F : Nat → Prop) (w : World) : Prop := ∀ k, F k → k < w.heap.size
theorem Nw.refl (F : Nat → Prop) (w : World) : Nw F F w := fun _ h => .inl h
theorem Nw.trans {F G H : Nat → Prop} {a b : World} (h : Nw G F a) (k : Nw H G b) (hs : a.heap.size ≤ b.heap.size) : Nw H F a := by
  intro x hx
  rcases k x hx with q | q
  · exact h x q
  · exact .inr (by omega)
theorem KF.refl (F : Nat → Prop) (w : World) : KF F w w := ⟨rfl, rfl, rfl, Nat.le_refl _, fun _ _ _ => rfl⟩
theorem KF.trans {F G : Nat → Prop} {a b c : World} (h : KF F a b) (k : KF G b c) (i : Nw G F a) : KF F a c :=
  ⟨k.os.trans h.os, k.tape.trans h.tape, k.output.trans h.output, Nat.le_trans h.size k.size, fun x hx hr => (k.block x (Nat.lt_of_lt_of_le hx h.size) (fun e => by
    rcases i x e with q | q
    · exact hr q
    · omega)).trans (h.block x hx hr)⟩
theorem KF.of {F : Nat → Prop} {a b : World} (h : Below a.heap.size a b) : KF F a b := ⟨h.os, h.tape, h.output, h.size, fun x hx _ => h.block x hx⟩
theorem KF.then {F : Nat → Prop} {a b c : World} (h : KF F a b) (k : Below b.heap.size b c) : KF F a c := h.trans (KF.of (F := F) k) (Nw.refl _ _)
theorem KF.mono {F G : Nat → Prop} {a b : World} (h : KF F a b) (i : ∀ k, F k → G k) : KF G a b := ⟨h.os, h.tape, h.output, h.size, fun x hx hr => h.block x hx fun e => hr (i x e)⟩
theorem KF.kb {F : Nat → Prop} {R : Nat} {a b : World} (h : KB R a b) (hR : F R) : KF F a b := ⟨h.os, h.tape, h.output, h.size, fun x hx hr => h.block x hx fun e => hr (by rw [e]; exact hR)⟩
theorem KF.set {F : Nat → Prop} {a b : World} {q : Nat} (h : KF F a b) (hq : F q) (i : Nat) (v : Value) : KF F a (b.setCell ⟨q, i, none⟩ v) :=
  ⟨h.os, h.tape, h.output, by show _ ≤ (b.setCell _ _).heap.size; simp [World.setCell]; exact h.size, fun x hx hr => (Below.heap_setCell _ _ _ _ (fun e => hr (by have e' : x = q := e; rw [e']; exact hq))).trans (h.block x hx hr)⟩
theorem KF.setNew {F : Nat → Prop} {a b : World} {z : Nat} (h : KF F a b) (hz : a.heap.size ≤ z) (i : Nat) (v : Value) : KF F a (b.setCell ⟨z, i, none⟩ v) :=
  ⟨h.os, h.tape, h.output, by show _ ≤ (b.setCell _ _).heap.size; simp [World.setCell]; exact h.size, fun x hx hr => (Below.heap_setCell _ _ _ _ (by show x ≠ z; omega)).trans (h.block x hx hr)⟩
theorem KF.alloc {F : Nat → Prop} {a b : World} (h : KF F a b) (o : Obj) : KF F a (b.alloc o) := h.then (below_alloc _ _)
theorem KF.below {F : Nat → Prop} {w a b : World} (h : Below w.heap.size w a) (k : KF F a b) (hF : ∀ x, F x → w.heap.size ≤ x) : Below w.heap.size w b :=
  ⟨k.os.trans h.os, k.tape.trans h.tape, k.output.trans h.output, Nat.le_trans h.size k.size, fun x hx => (k.block x (Nat.lt_of_lt_of_le hx h.size) (fun e => by have := hF x e; omega)).trans (h.block x hx)⟩
theorem KF.heap {F : Nat → Prop} {b : Nat} {w w' : World} {o : Obj} (k : KF F w w') (h : w.heap[b]? = some o) (hb : ¬ F b) : w'.heap[b]? = some o :=
  (k.block b (heap_lt h) hb).trans h
theorem KF.cell {F : Nat → Prop} {b i : Nat} {w w' : World} {v : Value} (k : KF F w w') (h : w.cell? ⟨b, i, none⟩ = some v) (hb : ¬ F b) : w'.cell? ⟨b, i, none⟩ = some v := by
  have := k.block b (World.block_lt_of_cell? w _ h) hb
  rw [← h]
  simp only [World.cell?, this]
theorem Sm.kf {F G : Nat → Prop} {a b : World} (k : KF G a b) (hF : Bd F a) (hd : ∀ x, F x → ¬ G x) : Sm F a b := fun x hx => k.block x (hF x hx) (hd x hx)
theorem Sm.below {F : Nat → Prop} {a b : World} (k : Below a.heap.size a b) (hF : Bd F a) : Sm F a b := fun x hx => k.block x (hF x hx)
theorem Sm.heap {F : Nat → Prop} {a b : World} (h : Sm F a b) {x : Nat} {o : Obj} (hx : F x) (ho : a.heap[x]? = some o) : b.heap[x]? = some o := (h x hx).trans ho
theorem Sm.sub {F G : Nat → Prop} {a b : World} (h : Sm F a b) (i : ∀ x, G x → F x) : Sm G a b := fun x hx => h x (i x hx)
theorem Bd.sm {F : Nat → Prop} {a b : World} (h : Bd F a) (s : Sm F a b) : Bd F b := by
  intro x hx
  have h1 := h x hx
  have h2 := s x hx
  rw [Array.getElem?_eq_getElem h1] at h2
  exact heap_lt h2
theorem Bd.mono {F : Nat → Prop} {a b : World} (h : Bd F a) (s : a.heap.size ≤ b.heap.size) : Bd F b := fun x hx => Nat.lt_of_lt_of_le (h x hx) s
/-- what F' and F have of another one's: nothing -/
theorem Nw.apart {F' F G : Nat → Prop} {a : World} (h : Nw F' F a) (hG : Bd G a) (hd : ∀ x, G x → ¬ F x) : ∀ x, G x → ¬ F' x := by
  intro x hx hf
  rcases h x hf with q | q
  · exact hd x hx q
  · have := hG x hx
    omega
end Ba
end Go.Proofs.YtakbbhngcdccpaaGreat
