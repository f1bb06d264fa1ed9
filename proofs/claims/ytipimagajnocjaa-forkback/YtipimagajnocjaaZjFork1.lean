import Derived.Test.YtipimagajnocjaaRows
import Derived.WalkKit
import Derived.ProofKit
import Derived.OpenShut
import Derived.WalkLawsBesides
import Derived.WalkSpells
import Derived.WalkMore
import Derived.ScopeJumps
import Derived.Below
import Derived.Laws.CopyOwn
import Derived.Laws.MakeOwn
import Derived.Deep.QuietTactic
import Derived.BigQuiet
import Derived.Deep.RegionHeld
import Derived.Laws.IdiomStrings
import Derived.Deep.AppendSrc
import Derived.Deep.Slices
import Derived.ShutString
import Derived.ChangeOld
import Derived.Laws.AppendOwn
import Derived.Lib.AppendZeros
/- What lies in memory: lists of int, rows of cells, frames. -/
namespace Go.Proofs.Ytipimagajnocjaa
open Go.ChangeShapes Go.WideShapes Go.ChangeAt Go.RowKit
namespace Ba

theorem hide {p : Prop} (h : p) : Hid p := h

/-- the k'th number of a list, 0 behind its end -/
def nth (l : List Int) (k : Nat) : Int := l.getD k 0
theorem nth_out (l : List Int) (k : Nat) (h : l.length ≤ k) : nth l k = 0 := by simp [nth, h]
theorem nth_lt (l : List Int) (k : Nat) (h : k < l.length) : nth l k = l[k] := by simp [nth, h]
theorem nth_take (l : List Int) (n k : Nat) (h : k < n) : nth (l.take n) k = nth l k := by simp [nth, h]
theorem eq_of_nth {l m : List Int} (h : l.length = m.length) (hn : ∀ k, k < l.length → nth l k = nth m k) : l = m := by
  apply List.ext_getElem h
  intro i h1 h2
  have := hn i h1
  rw [nth_lt l i h1, nth_lt m i h2] at this
  exact this

/-- the cells from oa on hold l -/
def At (w : World) (oa : Option Addr) (l : List Int) : Prop :=
  ∀ k, k < l.length → ∃ b off, oa = some ⟨b, off, none⟩ ∧ w.cell? ⟨b, off + k, none⟩ = some (.int .i64 (nth l k))
theorem At.below {w w' : World} {oa : Option Addr} {l : List Int} (h : At w oa l) (hb : Below w.heap.size w w') : At w' oa l := by
  intro k hk
  obtain ⟨b, off, he, hc⟩ := h k hk
  exact ⟨b, off, he, (hb.cell (World.block_lt_of_cell? w _ hc)).trans hc⟩
theorem At.nil (w : World) (oa : Option Addr) : At w oa [] := fun _ hk => absurd hk (Nat.not_lt_zero _)

/-- a row of the numbers l -/
def row (l : List Int) : Array Value := (l.map (Value.int .i64)).toArray
theorem row_size (l : List Int) : (row l).size = l.length := by simp [row]
theorem row_at (l : List Int) (k : Nat) (h : k < l.length) : (row l)[k]? = some (.int .i64 (nth l k)) := by simp [row, nth, h]

theorem heap_new (w : World) (o : Obj) : (w.alloc o).heap[w.heap.size]? = some o := by
  show (w.heap.push o)[w.heap.size]? = some o
  simp
theorem setRow_new (w : World) (cur data : Array Value) (t : TypeId) : (w.alloc (.cells cur t)).setRow w.heap.size data = w.alloc (.cells data t) := by
  unfold World.setRow World.alloc
  congr 1
  apply Array.ext
  · simp
  · intro i h1 h2
    simp [Array.getElem_modify, Array.getElem_push]
    split
    · simp_all
    · have : i < w.heap.size := by simp at h1; omega
      simp [this]
theorem cell_of {w : World} {b : Nat} {cur : Array Value} {t : TypeId} {fr : Nat × Nat} (h : w.heap[b]? = some (.cells cur t fr)) (k : Nat) : w.cell? ⟨b, k, none⟩ = cur[k]? := by
  simp [World.cell?, h]
theorem frozen_of {w : World} {b : Nat} {cur : Array Value} {t : TypeId} (h : w.heap[b]? = some (.cells cur t (0, 0))) (k : Nat) : w.frozen? ⟨b, k, none⟩ = false := by
  simp [World.frozen?, h]
theorem heap_setCell_same {w : World} {b i : Nat} {cur : Array Value} {t : TypeId} {fr : Nat × Nat} (h : w.heap[b]? = some (.cells cur t fr)) (v : Value) : (w.setCell ⟨b, i, none⟩ v).heap[b]? = some (.cells (cur.setIfInBounds i v) t fr) := by
  rw [setCell_eq_setRow w b i cur t fr v h]
  exact setRow_heap w b cur _ t fr h
theorem At.new (w : World) (l : List Int) (t : TypeId) : At (w.alloc (.cells (row l) t)) (some ⟨w.heap.size, 0, none⟩) l := by
  intro k hk
  refine ⟨w.heap.size, 0, rfl, ?_⟩
  rw [Nat.zero_add, ← row_at l k hk]
  exact cell_of (heap_new _ _) k
theorem At.lit (w : World) (l : List Int) (t : TypeId) (c : Array Value) (h : c = row l) : At (w.alloc (.cells c t)) (some ⟨w.heap.size, 0, none⟩) l := by
  subst h
  exact At.new w l t

theorem btr {a b c : World} (h : Below a.heap.size a b) (k : Below b.heap.size b c) : Below a.heap.size a c := h.trans (k.mono h.size)
theorem below_alloc (w : World) (o : Obj) : Below w.heap.size w (w.alloc o) := (Below.refl _ _).alloc (Nat.le_refl _) _
theorem bdrew (w : World) (q : Nat) : Below w.heap.size w (w.drewN q) := ⟨rfl, rfl, rfl, Nat.le_refl _, fun _ _ => rfl⟩
theorem bdrew1 (w : World) : Below w.heap.size w w.drew := ⟨rfl, rfl, rfl, Nat.le_refl _, fun _ _ => rfl⟩
theorem heap_below {w w' : World} {b : Nat} {o : Obj} (h : w.heap[b]? = some o) (hb : Below w.heap.size w w') : w'.heap[b]? = some o := by
  have hl : b < w.heap.size := by
    rcases Nat.lt_or_ge b w.heap.size with q | q
    · exact q
    · rw [Array.getElem?_eq_none q] at h; cases h
  exact (hb.block b hl).trans h

theorem results_row2 {fn : Func} {p u : Tmp} {ty : TypeId} (h : fn.results = #[.cell p ty, .tmp u]) (tmps : Array Value) (w : World) (g : Nat) (cs : Array Value) (v : Value)
    (hp : tmps.getD p undef = .pointer (some ⟨g, 0, none⟩)) (hv : tmps.getD u undef = v) (hl : (loadVar ty ⟨g, 0, none⟩).run Try.prog w = .ok (.agg cs) w) :
    (results fn tmps).run Try.prog w = .ok (.tuple #[.agg cs, v]) w := by
  subst hv
  have hp' : tmps[p]?.getD undef = .pointer (some ⟨g, 0, none⟩) := by simpa using hp
  simp [results, h, hp', asAddr, hl]
theorem ret_bool {a b : Bool} (h : a = b) : Ending.returned (.bool a) = .returned (.bool b) := by rw [h]
theorem ret_int {a b : Int} (h : a = b) : Ending.returned (.int .i64 a) = .returned (.int .i64 b) := by rw [h]
end Ba
end Go.Proofs.Ytipimagajnocjaa
/- From world to world, but for one block; a list in memory below a block. -/
namespace Go.Proofs.Ytipimagajnocjaa
open Go.ChangeShapes Go.WideShapes Go.ChangeAt Go.RowKit
namespace Ba

theorem heap_lt {w : World} {b : Nat} {o : Obj} (h : w.heap[b]? = some o) : b < w.heap.size := by
  rcases Nat.lt_or_ge b w.heap.size with q | q
  · exact q
  · rw [Array.getElem?_eq_none q] at h; cases h

/-- from w to w' at most block R has changed, of those that were there -/
structure KB (R : Nat) (w w' : World) : Prop where
  os : w'.os = w.os
  tape : w'.tape = w.tape
  output : w'.output = w.output
  size : w.heap.size ≤ w'.heap.size
  block : ∀ k, k < w.heap.size → k ≠ R → w'.heap[k]? = w.heap[k]?
theorem KB.refl (R : Nat) (w : World) : KB R w w := ⟨rfl, rfl, rfl, Nat.le_refl _, fun _ _ _ => rfl⟩
theorem KB.trans {R : Nat} {a b c : World} (h : KB R a b) (k : KB R b c) : KB R a c :=
  ⟨k.os.trans h.os, k.tape.trans h.tape, k.output.trans h.output, Nat.le_trans h.size k.size, fun x hx hr => (k.block x (Nat.lt_of_lt_of_le hx h.size) hr).trans (h.block x hx hr)⟩
theorem KB.of {R : Nat} {a b : World} (h : Below a.heap.size a b) : KB R a b := ⟨h.os, h.tape, h.output, h.size, fun x hx _ => h.block x hx⟩
theorem KB.setCell {R : Nat} {a b : World} (h : KB R a b) (i : Nat) (v : Value) : KB R a (b.setCell ⟨R, i, none⟩ v) :=
  ⟨h.os, h.tape, h.output, by show _ ≤ (b.setCell _ _).heap.size; simp [World.setCell]; exact h.size, fun x hx hr => (Below.heap_setCell _ _ _ _ hr).trans (h.block x hx hr)⟩
theorem KB.below {R : Nat} {w a b : World} (h : Below w.heap.size w a) (k : KB R a b) (hR : w.heap.size ≤ R) : Below w.heap.size w b :=
  ⟨k.os.trans h.os, k.tape.trans h.tape, k.output.trans h.output, Nat.le_trans h.size k.size, fun x hx => (k.block x (Nat.lt_of_lt_of_le hx h.size) (by omega)).trans (h.block x hx)⟩
theorem KB.heap {R b : Nat} {w w' : World} {o : Obj} (k : KB R w w') (h : w.heap[b]? = some o) (hb : b ≠ R) : w'.heap[b]? = some o :=
  (k.block b (heap_lt h) hb).trans h
theorem KB.cell {R b i : Nat} {w w' : World} {v : Value} (k : KB R w w') (h : w.cell? ⟨b, i, none⟩ = some v) (hb : b ≠ R) : w'.cell? ⟨b, i, none⟩ = some v := by
  have := k.block b (World.block_lt_of_cell? w _ h) hb
  rw [← h]
  simp only [World.cell?, this]
theorem KB.at {R : Nat} {w w' : World} {oa : Option Addr} {l : List Int} (k : KB R w w') (h : At w oa l) (hb : ∀ a, oa = some a → a.block ≠ R) : At w' oa l := by
  intro j hj
  obtain ⟨b, off, rfl, hc⟩ := h j hj
  exact ⟨b, off, rfl, k.cell hc (hb _ rfl)⟩
theorem KB.at' {R : Nat} {w w' : World} {oa : Option Addr} {l : List Int} (k : KB R w w') (h : At w oa l) (hb : 0 < l.length → ∀ a, oa = some a → a.block ≠ R) : At w' oa l := by
  intro j hj
  obtain ⟨b, off, rfl, hc⟩ := h j hj
  exact ⟨b, off, rfl, k.cell hc (hb (by omega) _ rfl)⟩
theorem At.lt {w : World} {oa : Option Addr} {l : List Int} (h : At w oa l) (h0 : 0 < l.length) (a : Addr) (e : oa = some a) : a.block < w.heap.size := by
  obtain ⟨b, off, rfl, hc⟩ := h 0 h0
  cases e
  exact World.block_lt_of_cell? w _ hc
theorem At.tail {w : World} {b off : Nat} {x : Int} {l : List Int} (h : At w (some ⟨b, off, none⟩) (x :: l)) : At w (some ⟨b, off + 1, none⟩) l := by
  intro k hk
  obtain ⟨b', off', he, hc⟩ := h (k + 1) (by simp; omega)
  simp only [Option.some.injEq, Addr.mk.injEq] at he
  obtain ⟨rfl, rfl, _⟩ := he
  refine ⟨b, off + 1, rfl, ?_⟩
  rw [show off + 1 + k = off + (k + 1) by omega, hc]
  rfl
theorem At.head {w : World} {oa : Option Addr} {x : Int} {l : List Int} (h : At w oa (x :: l)) : ∃ b off, oa = some ⟨b, off, none⟩ ∧ w.cell? ⟨b, off, none⟩ = some (.int .i64 x) := by
  obtain ⟨b, off, rfl, hc⟩ := h 0 (by simp)
  exact ⟨b, off, rfl, hc⟩
end Ba
end Go.Proofs.Ytipimagajnocjaa
/- A list of records of integers among a law's arguments, opened. -/
namespace Go.Proofs.Ytipimagajnocjaa
open Go.ChangeShapes Go.WideShapes Go.ChangeAt Go.RowKit
namespace Ba

/-- the cells from oa on hold the records l, of m numbers each -/
def RAt (w : World) (oa : Option Addr) (m : Nat) (l : List (List Int)) : Prop :=
  ∀ k x, l[k]? = some x → ∃ b off, oa = some ⟨b, off, none⟩ ∧ ∀ j, j < m → w.cell? ⟨b, off + k * m + j, none⟩ = some (.int .i64 (nth x j))
theorem RAt.nil (w : World) (oa : Option Addr) (m : Nat) : RAt w oa m [] := fun _ _ h => by simp at h
theorem RAt.below {w w' : World} {oa : Option Addr} {m : Nat} {l : List (List Int)} (h : RAt w oa m l) (hb : Below w.heap.size w w') : RAt w' oa m l := by
  intro k x hk
  obtain ⟨b, off, he, hc⟩ := h k x hk
  exact ⟨b, off, he, fun j hj => (hb.cell (World.block_lt_of_cell? w _ (hc j hj))).trans (hc j hj)⟩
theorem RAt.kb {w w' : World} {R : Nat} {oa : Option Addr} {m : Nat} {l : List (List Int)} (h : RAt w oa m l) (k : KB R w w') (hb : ∀ a, oa = some a → a.block ≠ R) : RAt w' oa m l := by
  intro i x hi
  obtain ⟨b, off, rfl, hc⟩ := h i x hi
  exact ⟨b, off, rfl, fun j hj => k.cell (hc j hj) (hb _ rfl)⟩
/-- below G nothing has changed, and no block of another type than e but G -/
def FT (G : Nat) (e : TypeId) (w w' : World) : Prop := Below G w w' ∧ ∀ k c t fr, w.heap[k]? = some (.cells c t fr) → t ≠ e → k ≠ G → w'.heap[k]? = some (.cells c t fr)
theorem FT.refl (P : Nat) (e : TypeId) (w : World) : FT P e w w := ⟨Below.refl _ _, fun _ _ _ _ h _ _ => h⟩
theorem FT.trans {P : Nat} {e : TypeId} {a b c : World} (h : FT P e a b) (k : FT P e b c) : FT P e a c :=
  ⟨h.1.trans k.1, fun x cc t fr hx ht hP => k.2 x cc t fr (h.2 x cc t fr hx ht hP) ht hP⟩
theorem FT.of {P : Nat} {e : TypeId} {a b : World} (h : Below a.heap.size a b) (hP : P ≤ a.heap.size) : FT P e a b :=
  ⟨h.mono hP, fun _ _ _ _ hx _ _ => heap_below hx h⟩
theorem FT.setP {P : Nat} {e : TypeId} {a b : World} (h : FT P e a b) (i : Nat) (v : Value) : FT P e a (b.setCell ⟨P, i, none⟩ v) :=
  ⟨h.1.setCell (Nat.le_refl _) _, fun x cc t fr hx ht hP => (Below.heap_setCell _ _ _ _ hP).trans (h.2 x cc t fr hx ht hP)⟩
theorem FT.setS {P : Nat} {e : TypeId} {a b : World} {q : Nat} {c : Array Value} {f : Nat × Nat} (h : FT P e a b) (hq : b.heap[q]? = some (.cells c e f)) (hP : P ≤ q) (i : Nat) (v : Value) : FT P e a (b.setCell ⟨q, i, none⟩ v) :=
  ⟨h.1.setCell hP _, fun x cc t fr hx ht hPx => (Below.heap_setCell _ _ _ _ (by
    intro (e : x = q)
    have := h.2 x cc t fr hx ht hPx
    rw [e, hq] at this
    cases this
    exact ht rfl)).trans (h.2 x cc t fr hx ht hPx)⟩
theorem FT.setNew {P : Nat} {e : TypeId} {a b : World} {z : Nat} (h : FT P e a b) (hz : a.heap.size ≤ z) (hP : P ≤ z) (i : Nat) (v : Value) : FT P e a (b.setCell ⟨z, i, none⟩ v) :=
  ⟨h.1.setCell hP _, fun x cc t fr hx ht hPx => (Below.heap_setCell _ _ _ _ (by have := heap_lt hx; show x ≠ z; omega)).trans (h.2 x cc t fr hx ht hPx)⟩
theorem FT.alloc {P : Nat} {e : TypeId} {a b : World} (h : FT P e a b) (hP : P ≤ b.heap.size) (o : Obj) : FT P e a (b.alloc o) := h.trans (FT.of (below_alloc _ _) hP)
theorem FT.under {P : Nat} {e : TypeId} {w a b : World} (h : Below w.heap.size w a) (k : FT P e a b) (hP : w.heap.size ≤ P) : Below w.heap.size w b := h.trans (k.1.mono hP)
theorem own_below {w w' : World} {base : Nat} {e : TypeId} {size : Nat} {v : Value} {n : Nat} {xs : List Value} (h : w.ownsRow base e size v n xs) (hb : Below w.heap.size w w') : w'.ownsRow base e size v n xs := by
  refine ⟨h.1, ?_⟩
  rcases h.2 with q | ⟨g, cap, cur, q1, q2, q3, q4⟩
  · exact .inl q
  · exact .inr ⟨g, cap, cur, q1, q2, heap_below q3 hb, q4⟩
theorem own_ty {w : World} {base size : Nat} {e : TypeId} {v : Value} {n g : Nat} {xs : List Value} {c : Array Value} {t : TypeId} {fr : Nat × Nat} (h : w.ownsRow base e size v n xs) (hg : w.heap[g]? = some (.cells c t fr)) (ht : t ≠ e) : some g ≠ v.ownBlock := by
  intro q
  rcases h.2 with ⟨rfl, _⟩ | ⟨b, cap, cur, rfl, _, hb, _⟩
  · simp [Value.ownBlock] at q
  · simp [Value.ownBlock] at q
    subst q
    rw [hg] at hb
    simp at hb
    exact ht hb.2.1
theorem one_of {cs : List Value} {j : Nat} {v : Value} (h : (cs.drop j).take 1 = [v]) : cs[j]? = some v := by
  have : ((cs.drop j).take 1)[0]? = some v := by rw [h]; rfl
  simpa using this
theorem cells_int : Try.prog.cellsOf 3 = 1 := by kernel_rfl

section
variable {H : Type} {enc : TypeId × Value → H} {w : World}
theorem recs_open {t e : TypeId} {m : Nat} (ht : Try.prog.underlying t = some (.slice e)) (hm0 : 0 < m) (hce : Try.prog.cellsOf e = m)
    (hE : ∀ (n : Nat) (cs : List Value) (x : DataW H × List MemPlace), DataW.trod enc Try.prog w 0 (fun _ => true) true n e cs = some x → ∃ z : List Int, ∀ j, j < m → cs[j]? = some (.int .i64 (nth z j)))
    {n : Nat} {oa : Option Addr} {len cap : Nat} {x : DataW H × List MemPlace} (h : DataW.trod enc Try.prog w 0 (fun _ => true) true n t [.slice oa len cap] = some x) : ∃ l : List (List Int), l.length = len ∧ RAt w oa m l ∧ len ≤ cap ∧ cap ≤ maxLen := by
  rcases Go.Deep.open_slice ht h with ⟨hcs, _⟩ | ⟨a, len', cap', m', n', D, Pl, hcs, _, hl, hm, hmm, _, hel⟩
  · simp at hcs
    obtain ⟨rfl, rfl, rfl⟩ := hcs
    exact ⟨[], rfl, RAt.nil _ _ _, Nat.le_refl _, Nat.zero_le _⟩
  · simp at hcs
    obtain ⟨rfl, rfl, rfl⟩ := hcs
    have hmc : m' = cap := by simpa using hmm
    subst hmc
    have key : ∀ i, i < len → ∃ z : List Int, ∀ j, j < m → w.cell? ((a.add (i * m)).add j) = some (.int .i64 (nth z j)) := by
      intro i hi
      obtain ⟨cs', h1, h2⟩ := hel i (by omega)
      rw [hce] at h1
      obtain ⟨_, _, hcell⟩ := World.cells?_some h1
      obtain ⟨z, hz⟩ := hE _ _ _ h2
      exact ⟨z, fun j hj => (hcell j hj).trans (hz j hj)⟩
    have fam : ∃ f : Nat → List Int, ∀ i, i < len → ∀ j, j < m → w.cell? ((a.add (i * m)).add j) = some (.int .i64 (nth (f i) j)) := by
      refine ⟨fun i => if hi : i < len then Classical.choose (key i hi) else [], fun i hi => ?_⟩
      simp only [dif_pos hi]
      exact Classical.choose_spec (key i hi)
    obtain ⟨f, hf⟩ := fam
    refine ⟨(List.range len).map f, by simp, ?_, hl, hm⟩
    intro k c hk
    have hk2 : k < len := by
      have := (List.getElem?_eq_some_iff.1 hk).1
      simpa using this
    have hc : c = f k := by
      simp [hk2] at hk
      exact hk.symm
    subst hc
    have hspot : a.spot = none := by
      have := World.cell?_spot (hf 0 (by omega) 0 hm0)
      simpa [Addr.add] using this
    obtain ⟨b, off, spot⟩ := a
    simp at hspot
    subst hspot
    refine ⟨b, off, rfl, fun j hj => ?_⟩
    have := hf k hk2 j hj
    rw [Addr.add_lit, Addr.add_lit] at this
    exact this
end
end Ba
end Go.Proofs.Ytipimagajnocjaa
/- Frames by footprint: what has changed lies in a set of blocks. -/
namespace Go.Proofs.Ytipimagajnocjaa
open Go.ChangeShapes Go.WideShapes Go.ChangeAt Go.RowKit
namespace Ba

/-- from w to w' nothing has changed outside F, of what was there -/
structure KF (F : Nat → Prop) (w w' : World) : Prop where
  os : w'.os = w.os
  tape : w'.tape = w.tape
  output : w'.output = w.output
  size : w.heap.size ≤ w'.heap.size
  block : ∀ k, k < w.heap.size → ¬ F k → w'.heap[k]? = w.heap[k]?
/-- F' is F, and what is new since w -/
def Nw (F' F : Nat → Prop) (w : World) : Prop := ∀ k, F' k → F k ∨ w.heap.size ≤ k
/-- the blocks of F are as they were -/
def Sm (F : Nat → Prop) (w w' : World) : Prop := ∀ k, F k → w'.heap[k]? = w.heap[k]?
/-- the blocks of F are there -/
def Bd (F : Nat → Prop) (w : World) : Prop := ∀ k, F k → k < w.heap.size
theorem Nw.refl (F : Nat → Prop) (w : World) : Nw F F w := fun _ h => .inl h
theorem Nw.trans {F G H : Nat → Prop} {a b : World} (h : Nw G F a) (k : Nw H G b) (hs : a.heap.size ≤ b.heap.size) : Nw H F a := by
  intro x hx
  rcases k x hx with q | q
  · exact h x q
  · exact .inr (by omega)
theorem KF.refl (F : Nat → Prop) (w : World) : KF F w w := ⟨rfl, rfl, rfl, Nat.le_refl _, fun _ _ _ => rfl⟩
theorem KF.trans {F G : Nat → Prop} {a b c : World} (h : KF F a b) (k : KF G b c) (i : Nw G F a) : KF F a c :=
  ⟨k.os.trans h.os, k.tape.trans h.tape, k.output.trans h.output, Nat.le_trans h.size k.size, fun x hx hr => (k.block x (Nat.lt_of_lt_of_le hx h.size) (fun e => by
    rcases i x e with q | q
    · exact hr q
    · omega)).trans (h.block x hx hr)⟩
theorem KF.of {F : Nat → Prop} {a b : World} (h : Below a.heap.size a b) : KF F a b := ⟨h.os, h.tape, h.output, h.size, fun x hx _ => h.block x hx⟩
theorem KF.then {F : Nat → Prop} {a b c : World} (h : KF F a b) (k : Below b.heap.size b c) : KF F a c := h.trans (KF.of (F := F) k) (Nw.refl _ _)
theorem KF.mono {F G : Nat → Prop} {a b : World} (h : KF F a b) (i : ∀ k, F k → G k) : KF G a b := ⟨h.os, h.tape, h.output, h.size, fun x hx hr => h.block x hx fun e => hr (i x e)⟩
theorem KF.kb {F : Nat → Prop} {R : Nat} {a b : World} (h : KB R a b) (hR : F R) : KF F a b := ⟨h.os, h.tape, h.output, h.size, fun x hx hr => h.block x hx fun e => hr (by rw [e]; exact hR)⟩
theorem KF.set {F : Nat → Prop} {a b : World} {q : Nat} (h : KF F a b) (hq : F q) (i : Nat) (v : Value) : KF F a (b.setCell ⟨q, i, none⟩ v) :=
  ⟨h.os, h.tape, h.output, by show _ ≤ (b.setCell _ _).heap.size; simp [World.setCell]; exact h.size, fun x hx hr => (Below.heap_setCell _ _ _ _ (fun e => hr (by have e' : x = q := e; rw [e']; exact hq))).trans (h.block x hx hr)⟩
theorem KF.setNew {F : Nat → Prop} {a b : World} {z : Nat} (h : KF F a b) (hz : a.heap.size ≤ z) (i : Nat) (v : Value) : KF F a (b.setCell ⟨z, i, none⟩ v) :=
  ⟨h.os, h.tape, h.output, by show _ ≤ (b.setCell _ _).heap.size; simp [World.setCell]; exact h.size, fun x hx hr => (Below.heap_setCell _ _ _ _ (by show x ≠ z; omega)).trans (h.block x hx hr)⟩
theorem KF.alloc {F : Nat → Prop} {a b : World} (h : KF F a b) (o : Obj) : KF F a (b.alloc o) := h.then (below_alloc _ _)
theorem KF.below {F : Nat → Prop} {w a b : World} (h : Below w.heap.size w a) (k : KF F a b) (hF : ∀ x, F x → w.heap.size ≤ x) : Below w.heap.size w b :=
  ⟨k.os.trans h.os, k.tape.trans h.tape, k.output.trans h.output, Nat.le_trans h.size k.size, fun x hx => (k.block x (Nat.lt_of_lt_of_le hx h.size) (fun e => by have := hF x e; omega)).trans (h.block x hx)⟩
theorem KF.heap {F : Nat → Prop} {b : Nat} {w w' : World} {o : Obj} (k : KF F w w') (h : w.heap[b]? = some o) (hb : ¬ F b) : w'.heap[b]? = some o :=
  (k.block b (heap_lt h) hb).trans h
theorem KF.cell {F : Nat → Prop} {b i : Nat} {w w' : World} {v : Value} (k : KF F w w') (h : w.cell? ⟨b, i, none⟩ = some v) (hb : ¬ F b) : w'.cell? ⟨b, i, none⟩ = some v := by
  have := k.block b (World.block_lt_of_cell? w _ h) hb
  rw [← h]
  simp only [World.cell?, this]
theorem Sm.kf {F G : Nat → Prop} {a b : World} (k : KF G a b) (hF : Bd F a) (hd : ∀ x, F x → ¬ G x) : Sm F a b := fun x hx => k.block x (hF x hx) (hd x hx)
theorem Sm.below {F : Nat → Prop} {a b : World} (k : Below a.heap.size a b) (hF : Bd F a) : Sm F a b := fun x hx => k.block x (hF x hx)
theorem Sm.heap {F : Nat → Prop} {a b : World} (h : Sm F a b) {x : Nat} {o : Obj} (hx : F x) (ho : a.heap[x]? = some o) : b.heap[x]? = some o := (h x hx).trans ho
theorem Sm.sub {F G : Nat → Prop} {a b : World} (h : Sm F a b) (i : ∀ x, G x → F x) : Sm G a b := fun x hx => h x (i x hx)
theorem Bd.sm {F : Nat → Prop} {a b : World} (h : Bd F a) (s : Sm F a b) : Bd F b := by
  intro x hx
  have h1 := h x hx
  have h2 := s x hx
  rw [Array.getElem?_eq_getElem h1] at h2
  exact heap_lt h2
theorem Bd.mono {F : Nat → Prop} {a b : World} (h : Bd F a) (s : a.heap.size ≤ b.heap.size) : Bd F b := fun x hx => Nat.lt_of_lt_of_le (h x hx) s
/-- what F' and F have of another one's: nothing -/
theorem Nw.apart {F' F G : Nat → Prop} {a : World} (h : Nw F' F a) (hG : Bd G a) (hd : ∀ x, G x → ¬ F x) : ∀ x, G x → ¬ F' x := by
  intro x hx hf
  rcases h x hf with q | q
  · exact hd x hx q
  · have := hG x hx
    omega
end Ba
end Go.Proofs.Ytipimagajnocjaa
/- Package pew: who waits, as a chain of seats in memory, with its footprint. -/
namespace Go.Proofs.Ytipimagajnocjaa
open Go.ChangeShapes Go.WideShapes Go.ChangeAt Go.RowKit
namespace Pe
open Ba

/-- a waiter -/
structure Wt where
  g : Int
  c : Int
  v : Int
def pt (o : Option Nat) : Value := .pointer (o.map fun b => ⟨b, 0, none⟩)
/-- the seat of x lies in block b -/
def Sc (w : World) (b : Nat) (x : Wt) (nx : Option Nat) : Prop :=
  w.heap[b]? = some (.cells #[.int .i64 x.g, .int .i64 x.c, .int .i64 x.v, pt nx] 118 (0, 0))
/-- from o to e there are just the seats l -/
def Ch (w : World) : Option Nat → List (Nat × Wt) → Option Nat → Prop
  | o, [], e => o = e
  | o, n :: t, e => o = some n.1 ∧ ∃ nx, Sc w n.1 n.2 nx ∧ Ch w nx t e
def Hd (w : World) (P : Nat) (f l : Option Nat) (n : Nat) : Prop :=
  w.heap[P]? = some (.cells #[pt f, pt l, .int .i64 (n : Int)] 116 (0, 0))
def lst (l : List (Nat × Wt)) : Option Nat := l.getLast?.map (·.1)
/-- the pew in block P, of the seats l -/
def Pn (w : World) (P : Nat) (l : List (Nat × Wt)) : Prop :=
  ∃ f, Hd w P f (lst l) l.length ∧ Ch w f l none ∧ (l.map (·.1)).Nodup ∧ (∀ n ∈ l, P < n.1) ∧ l.length ≤ 1024
/-- the pew in block P, of the waiters ws -/
def Pw (w : World) (P : Nat) (ws : List Wt) : Prop := ∃ l : List (Nat × Wt), l.map (·.2) = ws ∧ Pn w P l

theorem Sc.set {w : World} {b : Nat} {x : Wt} {nx : Option Nat} (h : Sc w b x nx) (e : Option Nat) : Sc (w.setCell ⟨b, 3, none⟩ (pt e)) b x e := (Ba.heap_setCell_same h _).trans rfl
theorem Sc.other {w : World} {b q i : Nat} {x : Wt} {nx : Option Nat} (h : Sc w b x nx) (v : Value) (hq : b ≠ q) : Sc (w.setCell ⟨q, i, none⟩ v) b x nx := (Below.heap_setCell _ _ _ _ hq).trans h
theorem Hd.setF {w : World} {P : Nat} {f l : Option Nat} {n : Nat} (h : Hd w P f l n) (e : Option Nat) : Hd (w.setCell ⟨P, 0, none⟩ (pt e)) P e l n := (Ba.heap_setCell_same h _).trans rfl
theorem Hd.setL {w : World} {P : Nat} {f l : Option Nat} {n : Nat} (h : Hd w P f l n) (e : Option Nat) : Hd (w.setCell ⟨P, 1, none⟩ (pt e)) P f e n := (Ba.heap_setCell_same h _).trans rfl
theorem Hd.setN {w : World} {P : Nat} {f l : Option Nat} {n : Nat} (h : Hd w P f l n) (m : Nat) (x : Int) (hx : x = (m : Int)) : Hd (w.setCell ⟨P, 2, none⟩ (.int .i64 x)) P f l m := by
  subst hx
  exact (Ba.heap_setCell_same h _).trans rfl
theorem Hd.other {w : World} {P q i : Nat} {f l : Option Nat} {n : Nat} (h : Hd w P f l n) (v : Value) (hq : P ≠ q) : Hd (w.setCell ⟨q, i, none⟩ v) P f l n := (Below.heap_setCell _ _ _ _ hq).trans h
theorem Ch.mono {w w' : World} : ∀ {l : List (Nat × Wt)} {o e : Option Nat}, Ch w o l e → (∀ n ∈ l, ∀ c t fr, w.heap[n.1]? = some (.cells c t fr) → t = 118 → w'.heap[n.1]? = some (.cells c t fr)) → Ch w' o l e
  | [], _, _, h, _ => h
  | n :: _, _, _, ⟨h1, nx, h2, h3⟩, hf => ⟨h1, nx, hf n (List.mem_cons_self ..) _ _ _ h2 rfl, Ch.mono h3 fun m hm => hf m (List.mem_cons_of_mem _ hm)⟩
theorem Ch.set {w : World} {l : List (Nat × Wt)} {o e : Option Nat} {q i : Nat} (h : Ch w o l e) (v : Value) (hq : ∀ n ∈ l, n.1 ≠ q) : Ch (w.setCell ⟨q, i, none⟩ v) o l e :=
  h.mono fun n hn _ _ _ hc _ => (Below.heap_setCell _ _ _ _ (hq n hn)).trans hc
theorem Ch.below {w w' : World} {l : List (Nat × Wt)} {o e : Option Nat} (h : Ch w o l e) (hb : Below w.heap.size w w') : Ch w' o l e :=
  h.mono fun _ _ _ _ _ hc _ => heap_below hc hb
theorem Ch.app {w : World} : ∀ {l m : List (Nat × Wt)} {o e : Option Nat}, Ch w o (l ++ m) e ↔ ∃ mid, Ch w o l mid ∧ Ch w mid m e
  | [], m, o, e => ⟨fun h => ⟨o, rfl, h⟩, fun ⟨mid, h1, h2⟩ => by cases h1; exact h2⟩
  | n :: t, m, o, e => by
    constructor
    · rintro ⟨h1, nx, h2, h3⟩
      obtain ⟨mid, h4, h5⟩ := Ch.app.1 h3
      exact ⟨mid, ⟨h1, nx, h2, h4⟩, h5⟩
    · rintro ⟨mid, ⟨h1, nx, h2, h4⟩, h5⟩
      exact ⟨h1, nx, h2, Ch.app.2 ⟨mid, h4, h5⟩⟩
theorem Ch.relast {w : World} {l : List (Nat × Wt)} {n : Nat × Wt} {o e : Option Nat} (h : Ch w o (l ++ [n]) e) (hn : ∀ m ∈ l, m.1 ≠ n.1) (e' : Option Nat) : Ch (w.setCell ⟨n.1, 3, none⟩ (pt e')) o (l ++ [n]) e' := by
  obtain ⟨mid, h1, h2, nx, h3, h4⟩ := Ch.app.1 h
  exact Ch.app.2 ⟨mid, h1.set _ hn, h2, e', h3.set e', rfl⟩
theorem Ch.sc {w : World} {l : List (Nat × Wt)} {n : Nat × Wt} {o e : Option Nat} (h : Ch w o (l ++ [n]) e) : Sc w n.1 n.2 e := by
  obtain ⟨mid, h1, h2, nx, h3, h4⟩ := Ch.app.1 h
  cases h4
  exact h3
theorem lst_app (l : List (Nat × Wt)) (n : Nat × Wt) : lst (l ++ [n]) = some n.1 := by simp [lst]
theorem lst_nil : lst [] = none := rfl
theorem Pn.below {w w' : World} {P : Nat} {l : List (Nat × Wt)} (h : Pn w P l) (hb : Below w.heap.size w w') : Pn w' P l := by
  obtain ⟨f, h1, h2, h3⟩ := h
  exact ⟨f, heap_below h1 hb, h2.below hb, h3⟩
theorem Pw.below {w w' : World} {P : Nat} {l : List Wt} (h : Pw w P l) (hb : Below w.heap.size w w') : Pw w' P l := by
  obtain ⟨m, e, h⟩ := h
  exact ⟨m, e, h.below hb⟩
theorem Pw.kbz {w w' : World} {P z : Nat} {l : List Wt} {c : Array Value} {t : TypeId} {fr : Nat × Nat} (h : Pw w P l) (k : KB z w w') (hz : w.heap[z]? = some (.cells c t fr)) (ht : t ≠ 118) (hP : P ≠ z) : Pw w' P l := by
  obtain ⟨m, em, f, g1, g2, g3⟩ := h
  exact ⟨m, em, f, k.heap g1 hP, g2.mono (fun n _ c' t' fr' hc ht' => k.heap hc (by
    intro e
    rw [e, hz] at hc
    cases hc
    exact ht ht')), g3⟩
theorem Pw.lt {w : World} {P : Nat} {l : List Wt} (h : Pw w P l) : P < w.heap.size := by
  obtain ⟨m, em, f, g1, g2, g3⟩ := h
  exact heap_lt g1
theorem Pw.le {w : World} {P : Nat} {l : List Wt} (h : Pw w P l) : l.length ≤ 1024 := by
  obtain ⟨m, em, f, g1, g2, g3, g4, g5⟩ := h
  rw [← em, List.length_map]
  exact g5
theorem Pw.nil {w : World} {P : Nat} (h : Hd w P none none 0) : Pw w P [] := ⟨[], rfl, none, h, rfl, List.nodup_nil, fun _ h => by simp at h, Nat.zero_le _⟩
/-- the pew in block P, of the waiters ws, inside F -/
def PF (w : World) (P : Nat) (F : Nat → Prop) (ws : List Wt) : Prop := ∃ l : List (Nat × Wt), l.map (·.2) = ws ∧ Pn w P l ∧ (∀ n ∈ l, F n.1) ∧ F P ∧ Bd F w
theorem PF.pw {w : World} {P : Nat} {F : Nat → Prop} {ws : List Wt} (h : PF w P F ws) : Pw w P ws := by
  obtain ⟨l, e, h1, _⟩ := h
  exact ⟨l, e, h1⟩
theorem PF.bd {w : World} {P : Nat} {F : Nat → Prop} {ws : List Wt} (h : PF w P F ws) : Bd F w := by
  obtain ⟨l, e, h1, h2, h3, h4⟩ := h
  exact h4
theorem PF.own {w : World} {P : Nat} {F : Nat → Prop} {ws : List Wt} (h : PF w P F ws) : F P := by
  obtain ⟨l, e, h1, h2, h3, h4⟩ := h
  exact h3
theorem PF.sm {w w' : World} {P : Nat} {F : Nat → Prop} {ws : List Wt} (h : PF w P F ws) (s : Sm F w w') : PF w' P F ws := by
  obtain ⟨l, e, ⟨f, h1, h2, h3⟩, g1, g2, g3⟩ := h
  exact ⟨l, e, ⟨f, s.heap g2 h1, h2.mono fun n hn c t fr hc _ => s.heap (g1 n hn) hc, h3⟩, g1, g2, g3.sm s⟩
theorem PF.below {w w' : World} {P : Nat} {F : Nat → Prop} {ws : List Wt} (h : PF w P F ws) (hb : Below w.heap.size w w') : PF w' P F ws := h.sm (Sm.below hb h.bd)
theorem PF.kf {w w' : World} {P : Nat} {F G : Nat → Prop} {ws : List Wt} (h : PF w P F ws) (k : KF G w w') (hd : ∀ x, F x → ¬ G x) : PF w' P F ws := h.sm (Sm.kf k h.bd hd)
theorem PF.lt {w : World} {P : Nat} {F : Nat → Prop} {ws : List Wt} (h : PF w P F ws) : P < w.heap.size := h.pw.lt
theorem PF.le {w : World} {P : Nat} {F : Nat → Prop} {ws : List Wt} (h : PF w P F ws) : ws.length ≤ 1024 := h.pw.le
/-- one more at the end -/
theorem Pn.added {w : World} {P b : Nat} {f : Option Nat} {l : List (Nat × Wt)} {x : Wt} (h1 : Hd w P f (some b) (l.length + 1)) (h2 : Ch w f l (some b)) (h3 : Sc w b x none) (h4 : (l.map (·.1)).Nodup) (h5 : ∀ n ∈ l, P < n.1) (h6 : l.length < 1024) (h7 : ∀ n ∈ l, n.1 ≠ b) (h8 : P < b) : Pn w P (l ++ [(b, x)]) := by
  refine ⟨f, ?_, Ch.app.2 ⟨some b, h2, rfl, none, h3, rfl⟩, ?_, ?_, ?_⟩
  · rw [lst_app, List.length_append]
    exact h1
  · rw [List.map_append, List.nodup_append]
    refine ⟨h4, by simp, ?_⟩
    intro a ha c hc
    simp at hc
    subst hc
    obtain ⟨n, hn, rfl⟩ := List.mem_map.1 ha
    exact h7 n hn
  · intro n hn
    rcases List.mem_append.1 hn with q | q
    · exact h5 n q
    · simp at q
      subst q
      exact h8
  · rw [List.length_append]
    simp
    omega
end Pe
end Go.Proofs.Ytipimagajnocjaa
/- Package pew: New, front, Len, First, link, Add, Take, over this seat's program. -/
namespace Go.Proofs.Ytipimagajnocjaa
open Go.ChangeShapes Go.WideShapes Go.ChangeAt Go.RowKit
namespace Pe
open Ba

def wv (x : Wt) : Value := .agg #[.int .i64 x.g, .int .i64 x.c, .int .i64 x.v]
theorem size_wt : (Try.prog.info? 49).map (·.size) = some 3 := by kernel_rfl
theorem loadVar_wt {w : World} {b : Nat} {c : Array Value} {t : TypeId} (h : w.heap[b]? = some (.cells c t (0, 0))) (hc : c.size = 3) : (loadVar 49 ⟨b, 0, none⟩).run Try.prog w = .ok (.agg c) w :=
  run_loadVar_row w b t _ _ _ _ h Try.underlying49 rfl (by rw [size_wt, hc])
theorem three_set {w : World} {b : Nat} {x0 x1 x2 : Value} {t : TypeId} (h : w.heap[b]? = some (.cells #[x0, x1, x2] t (0, 0))) (u0 u1 u2 : Value) : (((w.setCell ⟨b, 0, none⟩ u0).setCell ⟨b, 1, none⟩ u1).setCell ⟨b, 2, none⟩ u2).heap[b]? = some (.cells #[u0, u1, u2] t (0, 0)) := by
  rw [Ba.heap_setCell_same (Ba.heap_setCell_same (Ba.heap_setCell_same h u0) u1) u2]
  rfl

theorem new_any (w : World) :
    Calls Try.prog 44 #[] w fun r w' => r = .returned (.pointer (some ⟨w.heap.size, 0, none⟩)) ∧ PF w' w.heap.size (fun k => k = w.heap.size) [] ∧ Below w.heap.size w w' := by
  go_enter Try.func44, Try.ntmps44
  go_wp2_with fail
  go_ret
  exact ⟨rfl, ⟨[], rfl, ⟨none, heap_new _ _, rfl, List.nodup_nil, fun _ h => by simp at h, Nat.zero_le _⟩, fun _ h => by simp at h, rfl, fun k e => by show k < _; rw [World.size_alloc]; have e' : k = w.heap.size := e; omega⟩, below_alloc _ _⟩
theorem front_nil (w : World) :
    Calls Try.prog 70 #[.pointer none] w fun r w' => r = .returned (.pointer none) ∧ w' = w := by
  go_enter Try.func70, Try.ntmps70
  go_wp2_with fail
  go_ret
  exact ⟨rfl, rfl⟩
theorem front_c (P : Nat) (o : Option Addr) (w : World) (h : w.cell? ⟨P, 0, none⟩ = some (.pointer o)) :
    Calls Try.prog 70 #[.pointer (some ⟨P, 0, none⟩)] w fun r w' => r = .returned (.pointer o) ∧ w' = w := by
  go_enter Try.func70, Try.ntmps70
  go_wp2_with fail
  go_ret
  exact ⟨rfl, rfl⟩
theorem len_nil (w : World) :
    Calls Try.prog 59 #[.pointer none] w fun r w' => r = .returned (.int .i64 0) ∧ w' = w := by
  go_enter Try.func59, Try.ntmps59
  go_wp2_with fail
  go_ret
  exact ⟨rfl, rfl⟩
theorem len_c (P : Nat) (n : Int) (w : World) (h : w.cell? ⟨P, 2, none⟩ = some (.int .i64 n)) :
    Calls Try.prog 59 #[.pointer (some ⟨P, 0, none⟩)] w fun r w' => r = .returned (.int .i64 n) ∧ w' = w := by
  go_enter Try.func59, Try.ntmps59
  go_wp2_with fail
  go_ret
  exact ⟨rfl, rfl⟩
theorem len_any (P : Nat) (l : List Wt) (w : World) (h : Pw w P l) :
    Calls Try.prog 59 #[.pointer (some ⟨P, 0, none⟩)] w fun r w' => r = .returned (.int .i64 (l.length : Int)) ∧ w' = w := by
  obtain ⟨m, rfl, f, h1, h2⟩ := h
  rw [List.length_map]
  exact len_c P _ w (cell_of h1 2)
theorem link_none (P : Nat) (f l : Option Nat) (n : Nat) (o : Option Addr) (w : World) (h : Hd w P f l n) :
    Calls Try.prog 67 #[.pointer (some ⟨P, 0, none⟩), .pointer none, .pointer o] w fun r w' => r = .returned (.tuple #[]) ∧ w' = w.setCell ⟨P, 0, none⟩ (.pointer o) := by
  have y0 := cell_of h 0
  have z0 := frozen_of h 0
  simp at y0
  clear h
  go_enter Try.func67, Try.ntmps67
  go_wp2_with fail
  exact bodyPost_ret (results_none rfl _ _ _) rfl ⟨rfl, rfl⟩
theorem link_some (p : Value) (b : Nat) (x : Wt) (nx : Option Nat) (o : Option Addr) (w : World) (h : Sc w b x nx) :
    Calls Try.prog 67 #[p, .pointer (some ⟨b, 0, none⟩), .pointer o] w fun r w' => r = .returned (.tuple #[]) ∧ w' = w.setCell ⟨b, 3, none⟩ (.pointer o) := by
  have y0 := cell_of h 3
  have z0 := frozen_of h 3
  simp at y0
  clear h
  go_enter Try.func67, Try.ntmps67
  go_wp2_with fail
  exact bodyPost_end (results_none rfl _ _ _) rfl ⟨rfl, rfl⟩

theorem first_nil (w : World) :
    Calls Try.prog 63 #[.pointer none] w fun r w' => r = .returned (.tuple #[wv ⟨0, 0, 0⟩, .bool false]) ∧ Below w.heap.size w w' := by
  go_enter Try.func63, Try.ntmps63
  go_wp2_with fail
  refine (front_nil _).mono ?_
  rintro r w1 ⟨rfl, rfl⟩
  go_wp2_with fail
  exact bodyPost_ret (results_row2 Try.results63 _ _ _ _ _ rfl rfl (loadVar_wt (heap_new _ _) rfl)) rfl ⟨rfl, below_alloc _ _⟩
theorem first_none (P : Nat) (w : World) (h : Pw w P []) :
    Calls Try.prog 63 #[.pointer (some ⟨P, 0, none⟩)] w fun r w' => r = .returned (.tuple #[wv ⟨0, 0, 0⟩, .bool false]) ∧ Below w.heap.size w w' := by
  obtain ⟨m, em, f, h1, h2, h3⟩ := h
  obtain rfl : m = [] := by simpa using em
  cases h2
  have HD := hide h1
  clear h1 h3
  go_enter Try.func63, Try.ntmps63
  go_wp2_with fail
  refine (front_c P none _ ((cell_of (heap_below HD.out (below_alloc _ _)) 0).trans rfl)).mono ?_
  rintro r w1 ⟨rfl, rfl⟩
  go_wp2_with fail
  exact bodyPost_ret (results_row2 Try.results63 _ _ _ _ _ rfl rfl (loadVar_wt (heap_new _ _) rfl)) rfl ⟨rfl, below_alloc _ _⟩
theorem first_some (P : Nat) (x : Wt) (l : List Wt) (w : World) (h : Pw w P (x :: l)) :
    Calls Try.prog 63 #[.pointer (some ⟨P, 0, none⟩)] w fun r w' => r = .returned (.tuple #[wv x, .bool true]) ∧ Below w.heap.size w w' := by
  obtain ⟨m, em, f, h1, h2, h3⟩ := h
  match m, em with
  | (b, y) :: m, em =>
  simp at em
  obtain ⟨rfl, rfl⟩ := em
  obtain ⟨rfl, nx, h4, h5⟩ := h2
  have HD := hide h1
  have HS := hide h4
  clear h1 h3 h4 h5
  go_enter Try.func63, Try.ntmps63
  go_wp2_with fail
  refine (front_c P (some ⟨b, 0, none⟩) _ ((cell_of (heap_below HD.out (below_alloc _ _)) 0).trans rfl)).mono ?_
  rintro r w1 ⟨rfl, rfl⟩
  have HS1 := heap_below HS.out (below_alloc w (.cells #[.int .i64 0, .int .i64 0, .int .i64 0] 49))
  have Z := hide (heap_new w (.cells #[.int .i64 0, .int .i64 0, .int .i64 0] 49))
  have BW := hide (below_alloc w (.cells #[.int .i64 0, .int .i64 0, .int .i64 0] 49))
  generalize (w.alloc (.cells #[.int .i64 0, .int .i64 0, .int .i64 0] 49)) = w2 at HS1 Z BW ⊢
  have y0 := cell_of HS1 0
  have y1 := cell_of HS1 1
  have y2 := cell_of HS1 2
  have q0 := cell_of Z.out 0
  have q1 := cell_of Z.out 1
  have q2 := cell_of Z.out 2
  have f0 := frozen_of Z.out 0
  have f1 := frozen_of Z.out 1
  have f2 := frozen_of Z.out 2
  simp at y0 y1 y2 q0 q1 q2
  clear HS1
  go_wp2_with fail
  exact bodyPost_ret (results_row2 Try.results63 _ _ _ _ _ rfl rfl (loadVar_wt (three_set Z.out _ _ _) rfl)) rfl ⟨rfl, (((BW.out.setCell (Nat.le_refl _) _).setCell (Nat.le_refl _) _).setCell (Nat.le_refl _) _)⟩
/-- the first of them, and whether there is one -/
def fw : List Wt → Wt
  | [] => ⟨0, 0, 0⟩
  | x :: _ => x
def fo (l : List Wt) : Bool := !l.isEmpty
theorem first_any (P : Nat) (l : List Wt) (w : World) (h : Pw w P l) :
    Calls Try.prog 63 #[.pointer (some ⟨P, 0, none⟩)] w fun r w' => r = .returned (.tuple #[wv (fw l), .bool (fo l)]) ∧ Below w.heap.size w w' := by
  cases l with
  | nil => exact first_none P w h
  | cons x l => exact first_some P x l w h

theorem add_arg (p : Option Addr) (x : Wt) (w : World) (h : x.g < 0 ∨ x.c < -1) :
    Calls Try.prog 49 #[.pointer p, wv x] w fun r w' => r = .returned (.int .i64 1) ∧ Below w.heap.size w w' := by
  unfold wv
  obtain ⟨g, c, v⟩ := x
  simp only at h ⊢
  by_cases h1 : g < 0
  · have d1 : decide (g < 0) = true := decide_eq_true h1
    clear h
    go_enter Try.func49, Try.ntmps49
    go_wp2_with fail
    go_ret
    exact ⟨rfl, below_alloc _ _⟩
  · have d1 : decide (g < 0) = false := decide_eq_false h1
    have d2 : decide (c < -1) = true := decide_eq_true (by omega)
    clear h
    go_enter Try.func49, Try.ntmps49
    go_wp2_with fail
    go_ret
    exact ⟨rfl, below_alloc _ _⟩
theorem add_nil (x : Wt) (w : World) (h : 0 ≤ x.g ∧ -1 ≤ x.c) :
    Calls Try.prog 49 #[.pointer none, wv x] w fun r w' => r = .returned (.int .i64 7) ∧ Below w.heap.size w w' := by
  unfold wv
  obtain ⟨g, c, v⟩ := x
  simp only at h ⊢
  have d1 : decide (g < 0) = false := decide_eq_false (by omega)
  have d2 : decide (c < -1) = false := decide_eq_false (by omega)
  clear h
  go_enter Try.func49, Try.ntmps49
  go_wp2_with fail
  go_ret
  exact ⟨rfl, below_alloc _ _⟩
theorem add_full (P : Nat) (l : List Wt) (x : Wt) (w : World) (h : 0 ≤ x.g ∧ -1 ≤ x.c) (hP : Pw w P l) (hl : l.length = 1024) :
    Calls Try.prog 49 #[.pointer (some ⟨P, 0, none⟩), wv x] w fun r w' => r = .returned (.int .i64 5) ∧ Below w.heap.size w w' := by
  unfold wv
  obtain ⟨g, c, v⟩ := x
  simp only at h ⊢
  have d1 : decide (g < 0) = false := decide_eq_false (by omega)
  have d2 : decide (c < -1) = false := decide_eq_false (by omega)
  clear h
  obtain ⟨m, em, f, h1, h2⟩ := hP
  have hm : m.length = 1024 := by rw [← em, List.length_map] at hl; exact hl
  have y2 : w.cell? ⟨P, 2, none⟩ = some (.int .i64 1024) := by
    have := cell_of h1 2
    rw [hm] at this
    exact this
  have HP := heap_lt h1
  clear h1 h2 hm hl em
  go_enter Try.func49, Try.ntmps49
  go_wp2_with fail
  go_ret
  exact ⟨rfl, below_alloc _ _⟩
set_option maxHeartbeats 1600000 in
theorem add_ok (P : Nat) (F : Nat → Prop) (l : List Wt) (x : Wt) (w : World) (h : 0 ≤ x.g ∧ -1 ≤ x.c) (hP : PF w P F l) (hl : l.length < 1024) :
    Calls Try.prog 49 #[.pointer (some ⟨P, 0, none⟩), wv x] w fun r w' => r = .returned (.int .i64 0) ∧ KF F w w' ∧ ∃ F', Nw F' F w ∧ PF w' P F' (l ++ [x]) := by
  unfold wv
  obtain ⟨m, em, ⟨f, h1, h2, h3, h4, h5⟩, hF1, hF2, hF3⟩ := hP
  have FA := hide hF1
  have FP := hide hF2
  have FB := hide hF3
  clear hF1 hF2 hF3
  subst em
  rw [List.length_map] at hl
  have d1 : decide (x.g < 0) = false := decide_eq_false (by omega)
  have d2 : decide (x.c < -1) = false := decide_eq_false (by omega)
  clear h
  obtain ⟨k, hk⟩ : ∃ k, k = m.length := ⟨_, rfl⟩
  rw [← hk] at h1
  have HK := hide hk
  have d3 : ((k : Int) == 1024) = false := by rw [beq_eq_false_iff_ne]; omega
  have hk2 : k < 1024 := by omega
  clear hk
  have HD := hide h1
  have HP := heap_lt h1
  have HC := hide h2
  have BB := hide (btr (below_alloc w (.cells #[.int .i64 x.g, .int .i64 x.c, .int .i64 x.v] 49)) (below_alloc _ (.cells #[.int .i64 x.g, .int .i64 x.c, .int .i64 x.v, .pointer none] 118)))
  have NW : Hid (Sc ((w.alloc (.cells #[.int .i64 x.g, .int .i64 x.c, .int .i64 x.v] 49)).alloc (.cells #[.int .i64 x.g, .int .i64 x.c, .int .i64 x.v, .pointer none] 118)) (w.heap.size + 1) x none) := by
    have := heap_new (w.alloc (.cells #[.int .i64 x.g, .int .i64 x.c, .int .i64 x.v] 49)) (.cells #[.int .i64 x.g, .int .i64 x.c, .int .i64 x.v, .pointer none] 118)
    rw [World.size_alloc] at this
    exact this
  have ND := hide h3
  have GT := hide h4
  have LT : Hid (∀ n ∈ m, n.1 < w.heap.size) := by
    intro n hn
    obtain ⟨l1, l2, rfl⟩ := List.append_of_mem hn
    obtain ⟨mid, _, _, nx, h6, _⟩ := Ch.app.1 h2
    exact heap_lt h6
  have y1 : w.cell? ⟨P, 1, none⟩ = some (pt (lst m)) := cell_of h1 1
  have y2 : w.cell? ⟨P, 2, none⟩ = some (.int .i64 (k : Int)) := cell_of h1 2
  clear h1 h2 h3 h4
  rcases List.eq_nil_or_concat m with rfl | ⟨m0, n0, rfl⟩
  · have e0 : f = none := HC.out
    subst e0
    have y1' : w.cell? ⟨P, 1, none⟩ = some (.pointer none) := y1
    clear y1
    go_enter Try.func49, Try.ntmps49
    go_wp2_with fail
    generalize ((w.alloc (.cells #[.int .i64 x.g, .int .i64 x.c, .int .i64 x.v] 49)).alloc (.cells #[.int .i64 x.g, .int .i64 x.c, .int .i64 x.v, .pointer none] 118)) = W2 at BB NW ⊢
    refine (link_none P none none k (some ⟨w.heap.size + 1, 0, none⟩) _ (heap_below HD.out BB.out)).mono ?_
    rintro r w3 ⟨rfl, hw3⟩
    have HD3 : Hid (Hd w3 P (some (w.heap.size + 1)) none k) := by rw [hw3]; exact Hd.setF (heap_below HD.out BB.out) (some (w.heap.size + 1))
    have CH3 : Hid (Ch w3 (some (w.heap.size + 1)) [] (some (w.heap.size + 1))) := rfl
    have NW3 : Hid (Sc w3 (w.heap.size + 1) x none) := by rw [hw3]; exact NW.out.other _ (by omega)
    have FT3 : Hid (KF F w w3) := by rw [hw3]; exact (KF.of (F := F) BB.out).set FP.out 0 _
    clear hw3 BB NW HD y2 y1'
    have y1 := cell_of HD3.out 1
    have y2 := cell_of HD3.out 2
    have HPP := hide (heap_lt HD3.out)
    have f1 := frozen_of HD3.out 1
    have f2 := frozen_of HD3.out 2
    simp at y1 y2
    go_wp2_with fail
    go_ret
    refine ⟨rfl, (FT3.out.set FP.out 1 _).set FP.out 2 _, fun k => F k ∨ k = w.heap.size + 1, fun k hk => hk.imp id (fun e => by omega), ⟨_, ?_, Pn.added (f := some (w.heap.size + 1)) (b := w.heap.size + 1) (x := x) ((HD3.out.setL (some (w.heap.size + 1))).setN _ _ (by rw [HK.out]; simp)) ((CH3.out.set _ (fun n hn => by have := GT.out n hn; omega)).set _ (fun n hn => by have := GT.out n hn; omega)) ((NW3.out.other _ (by omega)).other _ (by omega)) ND.out GT.out hl (fun n hn => by have := LT.out n hn; omega) (by omega), ?_, .inl FP.out, ?_⟩⟩
    · simp
    · intro n hn
      rcases List.mem_append.1 hn with q | q
      · exact .inl (FA.out n q)
      · simp at q; subst q; exact .inr rfl
    · intro k hk
      have hz := ((FT3.out.set FP.out 1 (.pointer (some ⟨w.heap.size + 1, 0, none⟩))).set FP.out 2 (.int .i64 0)).size
      rcases hk with q | q
      · exact Nat.lt_of_lt_of_le (FB.out k q) (by first | exact hz | (simp [World.setCell] at hz ⊢; omega))
      · subst q
        have hs := heap_lt NW3.out
        simp [World.setCell]
        exact hs
  · rw [List.concat_eq_append] at *
    have y1' : w.cell? ⟨P, 1, none⟩ = some (.pointer (some ⟨n0.1, 0, none⟩)) := by rw [lst_app] at y1; exact y1
    clear y1
    go_enter Try.func49, Try.ntmps49
    go_wp2_with fail
    generalize ((w.alloc (.cells #[.int .i64 x.g, .int .i64 x.c, .int .i64 x.v] 49)).alloc (.cells #[.int .i64 x.g, .int .i64 x.c, .int .i64 x.v, .pointer none] 118)) = W2 at BB NW ⊢
    have C2 := hide (HC.out.below BB.out)
    have hn0 := GT.out n0 (by simp)
    have hn1 := LT.out n0 (by simp)
    have DJ : Hid (∀ n ∈ m0, n.1 ≠ n0.1) := by
      intro n hn e
      have := ND.out
      rw [List.map_append, List.nodup_append] at this
      exact this.2.2 n.1 (List.mem_map.2 ⟨n, hn, rfl⟩) n0.1 (by simp) e
    refine (link_some _ n0.1 n0.2 none (some ⟨w.heap.size + 1, 0, none⟩) _ C2.out.sc).mono ?_
    rintro r w3 ⟨rfl, hw3⟩
    have HD3 : Hid (Hd w3 P f (lst (m0 ++ [n0])) k) := by rw [hw3]; exact Hd.other (heap_below HD.out BB.out) _ (by omega)
    have CH3 : Hid (Ch w3 f (m0 ++ [n0]) (some (w.heap.size + 1))) := by rw [hw3]; exact C2.out.relast DJ.out (some (w.heap.size + 1))
    have NW3 : Hid (Sc w3 (w.heap.size + 1) x none) := by rw [hw3]; exact NW.out.other _ (by omega)
    have FT3 : Hid (KF F w w3) := by rw [hw3]; exact (KF.of (F := F) BB.out).set (FA.out n0 (by simp)) 3 _
    clear hw3 BB NW HD y2 y1' C2 DJ
    have y1 := cell_of HD3.out 1
    have y2 := cell_of HD3.out 2
    have HPP := hide (heap_lt HD3.out)
    have f1 := frozen_of HD3.out 1
    have f2 := frozen_of HD3.out 2
    simp at y1 y2
    go_wp2_with fail
    go_ret
    refine ⟨rfl, (FT3.out.set FP.out 1 _).set FP.out 2 _, fun k => F k ∨ k = w.heap.size + 1, fun k hk => hk.imp id (fun e => by omega), ⟨_, ?_, Pn.added (f := f) (b := w.heap.size + 1) (x := x) ((HD3.out.setL (some (w.heap.size + 1))).setN _ _ (by rw [HK.out]; simp)) ((CH3.out.set _ (fun n hn => by have := GT.out n hn; omega)).set _ (fun n hn => by have := GT.out n hn; omega)) ((NW3.out.other _ (by omega)).other _ (by omega)) ND.out GT.out hl (fun n hn => by have := LT.out n hn; omega) (by omega), ?_, .inl FP.out, ?_⟩⟩
    · simp
    · intro n hn
      rcases List.mem_append.1 hn with q | q
      · exact .inl (FA.out n q)
      · simp at q; subst q; exact .inr rfl
    · intro k hk
      have hz := ((FT3.out.set FP.out 1 (.pointer (some ⟨w.heap.size + 1, 0, none⟩))).set FP.out 2 (.int .i64 0)).size
      rcases hk with q | q
      · exact Nat.lt_of_lt_of_le (FB.out k q) (by first | exact hz | (simp [World.setCell] at hz ⊢; omega))
      · subst q
        have hs := heap_lt NW3.out
        simp [World.setCell]
        exact hs

set_option maxHeartbeats 1600000 in
theorem take_nil (w : World) :
    Calls Try.prog 45 #[.pointer none] w fun r w' => r = .returned (.tuple #[wv ⟨0, 0, 0⟩, .bool false]) ∧ Below w.heap.size w w' := by
  go_enter Try.func45, Try.ntmps45
  go_wp2_with fail
  refine (first_nil _).mono ?_
  rintro r w1 ⟨rfl, b1⟩
  have Z1 := hide (heap_below (heap_new w (.cells #[.int .i64 0, .int .i64 0, .int .i64 0] 49)) b1)
  have B1 := hide (btr (below_alloc w (.cells #[.int .i64 0, .int .i64 0, .int .i64 0] 49)) b1)
  have q0 := cell_of Z1.out 0
  have q1 := cell_of Z1.out 1
  have q2 := cell_of Z1.out 2
  have f0 := frozen_of Z1.out 0
  have f1 := frozen_of Z1.out 1
  have f2 := frozen_of Z1.out 2
  have hlt := heap_lt Z1.out
  simp at q0 q1 q2
  clear b1
  unfold wv
  go_wp2_with fail
  exact bodyPost_ret (results_row2 Try.results45 _ _ _ _ _ rfl rfl (loadVar_wt (heap_below (three_set Z1.out _ _ _) (below_alloc _ _)) rfl)) rfl ⟨rfl, btr (((B1.out.setCell (Nat.le_refl _) _).setCell (Nat.le_refl _) _).setCell (Nat.le_refl _) _) (below_alloc _ _)⟩
set_option maxHeartbeats 1600000 in
theorem take_none (P : Nat) (w : World) (h : Pw w P []) :
    Calls Try.prog 45 #[.pointer (some ⟨P, 0, none⟩)] w fun r w' => r = .returned (.tuple #[wv ⟨0, 0, 0⟩, .bool false]) ∧ Below w.heap.size w w' := by
  have H := hide h
  clear h
  go_enter Try.func45, Try.ntmps45
  go_wp2_with fail
  refine (first_none P _ (H.out.below (below_alloc _ _))).mono ?_
  rintro r w1 ⟨rfl, b1⟩
  have Z1 := hide (heap_below (heap_new w (.cells #[.int .i64 0, .int .i64 0, .int .i64 0] 49)) b1)
  have B1 := hide (btr (below_alloc w (.cells #[.int .i64 0, .int .i64 0, .int .i64 0] 49)) b1)
  have q0 := cell_of Z1.out 0
  have q1 := cell_of Z1.out 1
  have q2 := cell_of Z1.out 2
  have f0 := frozen_of Z1.out 0
  have f1 := frozen_of Z1.out 1
  have f2 := frozen_of Z1.out 2
  have hlt := heap_lt Z1.out
  simp at q0 q1 q2
  clear b1
  unfold wv
  go_wp2_with fail
  exact bodyPost_ret (results_row2 Try.results45 _ _ _ _ _ rfl rfl (loadVar_wt (heap_below (three_set Z1.out _ _ _) (below_alloc _ _)) rfl)) rfl ⟨rfl, btr (((B1.out.setCell (Nat.le_refl _) _).setCell (Nat.le_refl _) _).setCell (Nat.le_refl _) _) (below_alloc _ _)⟩
theorem take_fin {w A : World} {P : Nat} {F : Nat → Prop} {l : List Wt} {c : Array Value} (hA : PF A P F l) (hF : KF F w A) (hd : Bd F w) (hz : A.heap[w.heap.size]? = some (.cells c 49 (0, 0))) (u0 u1 u2 : Value) (o : Obj) :
    KF F w ((((A.setCell ⟨w.heap.size, 0, none⟩ u0).setCell ⟨w.heap.size, 1, none⟩ u1).setCell ⟨w.heap.size, 2, none⟩ u2).alloc o) ∧ PF ((((A.setCell ⟨w.heap.size, 0, none⟩ u0).setCell ⟨w.heap.size, 1, none⟩ u1).setCell ⟨w.heap.size, 2, none⟩ u2).alloc o) P F l := by
  have hAl := heap_lt hz
  have K := (((KB.refl w.heap.size A).setCell 0 u0).setCell 1 u1).setCell 2 u2
  exact ⟨(((hF.setNew (Nat.le_refl _) _ _).setNew (Nat.le_refl _) _ _).setNew (Nat.le_refl _) _ _).alloc _, (hA.sm (fun x hx => K.block x (hA.bd x hx) (by have := hd x hx; omega))).below (below_alloc _ _)⟩
set_option maxHeartbeats 1600000 in
theorem take_some (P : Nat) (F : Nat → Prop) (x : Wt) (l : List Wt) (w : World) (h : PF w P F (x :: l)) :
    Calls Try.prog 45 #[.pointer (some ⟨P, 0, none⟩)] w fun r w' => r = .returned (.tuple #[wv x, .bool true]) ∧ KF F w w' ∧ PF w' P F l := by
  have PW := hide h.pw
  obtain ⟨m', em, ⟨f, h1, h2, h3, h4, h5⟩, hF1, hF2, hF3⟩ := h
  have FP := hide hF2
  have FB := hide hF3
  clear hF2 hF3
  match m', em, h1, h2, h3, h4, h5, hF1 with
  | (b, y) :: m, em, h1, h2, h3, h4, h5, hF1 =>
  have FA : Hid (∀ n ∈ m, F n.1) := fun n hn => hF1 n (List.mem_cons_of_mem _ hn)
  clear hF1
  simp at em
  obtain ⟨rfl, rfl⟩ := em
  obtain ⟨rfl, nx, h6, h7⟩ := h2
  have HP := heap_lt h1
  obtain ⟨k, hk⟩ : ∃ k, k = m.length := ⟨_, rfl⟩
  rw [List.length_cons] at h1 h5
  rw [← hk] at h1 h5
  have HK := hide hk
  clear hk
  have HD := hide h1
  have HS := hide h6
  have CH := hide h7
  have ND : Hid ((m.map (·.1)).Nodup) := by
    have : (List.map (·.1) ((b, y) :: m)).Nodup := h3
    rw [List.map_cons, List.nodup_cons] at this
    exact this.2
  have GT : Hid (∀ n ∈ m, P < n.1) := fun n hn => h4 n (List.mem_cons_of_mem _ hn)
  have hPb : P < b := h4 (b, y) (List.mem_cons_self ..)
  clear h1 h3 h4 h6 h7
  cases m with
  | nil =>
    have e0 : nx = none := CH.out
    subst e0
    skip
    go_enter Try.func45, Try.ntmps45
    go_wp2_with fail
    refine (first_some P y ([]) _ (PW.out.below (below_alloc _ _))).mono ?_
    rintro r w1 ⟨rfl, b1⟩
    have Z1 := hide (heap_below (heap_new w (.cells #[.int .i64 0, .int .i64 0, .int .i64 0] 49)) b1)
    have B1 := hide (btr (below_alloc w (.cells #[.int .i64 0, .int .i64 0, .int .i64 0] 49)) b1)
    have q0 := cell_of Z1.out 0
    have q1 := cell_of Z1.out 1
    have q2 := cell_of Z1.out 2
    have f0 := frozen_of Z1.out 0
    have f1 := frozen_of Z1.out 1
    have f2 := frozen_of Z1.out 2
    have hlt := heap_lt Z1.out
    simp at q0 q1 q2
    clear b1
    have HD1 := hide (heap_below HD.out B1.out)
    have HS1 := hide (heap_below HS.out B1.out)
    have CH1 := hide (CH.out.below B1.out)
    have FT1 := hide (KF.of (F := F) B1.out)
    have hPw1 := heap_lt HD1.out
    have hbw1 := heap_lt HS1.out
    have y0 : w1.cell? ⟨P, 0, none⟩ = some (.pointer (some ⟨b, 0, none⟩)) := cell_of HD1.out 0
    have y1 := cell_of HD1.out 1
    have y2 := cell_of HD1.out 2
    have g0 := frozen_of HD1.out 0
    have g1 := frozen_of HD1.out 1
    have g2 := frozen_of HD1.out 2
    have y3 : w1.cell? ⟨b, 3, none⟩ = some (.pointer (none)) := cell_of HS1.out 3
    simp at y1 y2
    unfold wv
    go_wp2_with fail
    have hd := ((Hd.setF HD1.out none).setL none).setN k (k : Int) rfl
    have KK := ((FT1.out.set FP.out 0 (.pointer none)).set FP.out 1 (.pointer none)).set FP.out 2 (.int .i64 (k : Int))
    have hA : PF (((w1.setCell ⟨P, 0, none⟩ (.pointer none)).setCell ⟨P, 1, none⟩ (.pointer none)).setCell ⟨P, 2, none⟩ (.int .i64 (k : Int))) P F [] := ⟨[], rfl, ⟨none, (by
      have e := HK.out
      subst e
      exact hd), rfl, List.nodup_nil, fun _ h => by simp at h, Nat.zero_le _⟩, fun _ h => by simp at h, FP.out, FB.out.mono KK.size⟩
    have hz : (((w1.setCell ⟨P, 0, none⟩ (.pointer none)).setCell ⟨P, 1, none⟩ (.pointer none)).setCell ⟨P, 2, none⟩ (.int .i64 (k : Int))).heap[w.heap.size]? = _ := ((((KB.refl P w1).setCell 0 _).setCell 1 _).setCell 2 _).heap Z1.out (by omega)
    exact bodyPost_ret (results_row2 Try.results45 _ _ _ _ _ rfl rfl (loadVar_wt (heap_below (three_set hz _ _ _) (below_alloc _ _)) rfl)) rfl ⟨rfl, take_fin hA KK FB.out hz _ _ _ _⟩
  | cons n2 m2 =>
    have e0 : nx = some n2.1 := CH.out.1
    subst e0
    skip
    go_enter Try.func45, Try.ntmps45
    go_wp2_with fail
    refine (first_some P y ((n2 :: m2).map (·.2)) _ (PW.out.below (below_alloc _ _))).mono ?_
    rintro r w1 ⟨rfl, b1⟩
    have Z1 := hide (heap_below (heap_new w (.cells #[.int .i64 0, .int .i64 0, .int .i64 0] 49)) b1)
    have B1 := hide (btr (below_alloc w (.cells #[.int .i64 0, .int .i64 0, .int .i64 0] 49)) b1)
    have q0 := cell_of Z1.out 0
    have q1 := cell_of Z1.out 1
    have q2 := cell_of Z1.out 2
    have f0 := frozen_of Z1.out 0
    have f1 := frozen_of Z1.out 1
    have f2 := frozen_of Z1.out 2
    have hlt := heap_lt Z1.out
    simp at q0 q1 q2
    clear b1
    have HD1 := hide (heap_below HD.out B1.out)
    have HS1 := hide (heap_below HS.out B1.out)
    have CH1 := hide (CH.out.below B1.out)
    have FT1 := hide (KF.of (F := F) B1.out)
    have hPw1 := heap_lt HD1.out
    have hbw1 := heap_lt HS1.out
    have y0 : w1.cell? ⟨P, 0, none⟩ = some (.pointer (some ⟨b, 0, none⟩)) := cell_of HD1.out 0
    have y1 := cell_of HD1.out 1
    have y2 := cell_of HD1.out 2
    have g0 := frozen_of HD1.out 0
    have g1 := frozen_of HD1.out 1
    have g2 := frozen_of HD1.out 2
    have y3 : w1.cell? ⟨b, 3, none⟩ = some (.pointer (some ⟨n2.1, 0, none⟩)) := cell_of HS1.out 3
    simp at y1 y2
    unfold wv
    go_wp2_with fail
    have hd := (Hd.setF HD1.out (some n2.1)).setN k (k : Int) rfl
    have hl : lst ((b, y) :: n2 :: m2) = lst (n2 :: m2) := by simp [lst, List.getLast?_cons_cons]
    rw [hl] at hd
    have KK := (FT1.out.set FP.out 0 (.pointer (some ⟨n2.1, 0, none⟩))).set FP.out 2 (.int .i64 (k : Int))
    have hA : PF ((w1.setCell ⟨P, 0, none⟩ (.pointer (some ⟨n2.1, 0, none⟩))).setCell ⟨P, 2, none⟩ (.int .i64 (k : Int))) P F ((n2 :: m2).map (·.2)) := by
      have hk := HK.out
      refine ⟨n2 :: m2, rfl, ⟨some n2.1, by rw [← hk]; exact hd, (CH1.out.set _ (fun n hn => by have := GT.out n hn; omega)).set _ (fun n hn => by have := GT.out n hn; omega), ND.out, GT.out, by omega⟩, FA.out, FP.out, FB.out.mono KK.size⟩
    have hz : ((w1.setCell ⟨P, 0, none⟩ (.pointer (some ⟨n2.1, 0, none⟩))).setCell ⟨P, 2, none⟩ (.int .i64 (k : Int))).heap[w.heap.size]? = _ := (((KB.refl P w1).setCell 0 _).setCell 2 _).heap Z1.out (by omega)
    exact bodyPost_ret (results_row2 Try.results45 _ _ _ _ _ rfl rfl (loadVar_wt (heap_below (three_set hz _ _ _) (below_alloc _ _)) rfl)) rfl ⟨rfl, take_fin hA KK FB.out hz _ _ _ _⟩
end Pe
end Go.Proofs.Ytipimagajnocjaa
/- Package pew: how many seats there are from a pointer on. -/
namespace Go.Proofs.Ytipimagajnocjaa
open Go.ChangeShapes Go.WideShapes Go.ChangeAt Go.RowKit
namespace Pe
open Ba

/-- how many seats there are from the pointer on -/
def ms (m : List (Nat × Wt)) : Value → Nat
  | .pointer (some a) => m.length - (m.map (·.1)).idxOf a.block
  | _ => 0
theorem ms_none (m : List (Nat × Wt)) : ms m (.pointer none) = 0 := rfl
theorem ms_at {m pre t : List (Nat × Wt)} {n : Nat × Wt} (h : m = pre ++ n :: t) (hn : (m.map (·.1)).Nodup) : ms m (.pointer (some ⟨n.1, 0, none⟩)) = t.length + 1 := by
  subst h
  unfold ms
  simp only
  rw [List.map_append, List.map_cons, List.idxOf_append]
  rw [List.map_append, List.map_cons, List.nodup_append] at hn
  have : n.1 ∉ pre.map (·.1) := fun hm => hn.2.2 n.1 hm n.1 (List.mem_cons_self ..) rfl
  rw [if_neg this, List.idxOf_cons_self]
  simp
theorem ms_ch {w : World} {m pre rest : List (Nat × Wt)} {o : Option Nat} (h : m = pre ++ rest) (hn : (m.map (·.1)).Nodup) (hc : Ch w o rest none) : ms m (pt o) = rest.length := by
  cases rest with
  | nil => cases hc; rfl
  | cons n t =>
    obtain ⟨rfl, _⟩ := hc
    exact ms_at h hn
def hasb (g : Int) (l : List Wt) : Bool := l.any fun x => x.g == g

end Pe
end Go.Proofs.Ytipimagajnocjaa
/- Package pew: Drop, over this seat's program. -/
namespace Go.Proofs.Ytipimagajnocjaa
open Go.ChangeShapes Go.WideShapes Go.ChangeAt Go.RowKit
namespace Pe
open Ba

/-- those that are left when all of g are gone -/
def dr (g : Int) (l : List Wt) : List Wt := l.filter fun x => !(x.g == g)
theorem dr_len (g : Int) (l : List Wt) : (dr g l).length ≤ l.length := List.length_filter_le _ _
/-- Drop's walk: K are kept, rest is to come -/
structure Ds (w wr : World) (P : Nat) (F : Nat → Prop) (g : Int) (m K rest : List (Nat × Wt)) (gone : Nat) (o : Option Nat) : Prop where
  f : ∃ f mid last, Hd wr P f last m.length ∧ Ch wr f K mid
  c : Ch wr o rest none
  nd : ((K ++ rest).map (·.1)).Nodup
  gt : ∀ n ∈ K ++ rest, P < n.1
  fil : dr g (m.map (·.2)) = K.map (·.2) ++ dr g (rest.map (·.2))
  suf : ∃ pre, m = pre ++ rest
  cnt : gone + K.length + rest.length = m.length
  ft : KF F w wr
  fa : ∀ n ∈ m, F n.1
  fk : ∀ n ∈ K, F n.1
  fp : F P
theorem Ds.skip {w wr : World} {P : Nat} {F : Nat → Prop} {g : Int} {m K t : List (Nat × Wt)} {gone : Nat} {b : Nat} {y : Wt} {o nx : Option Nat} (h : Ds w wr P F g m K ((b, y) :: t) gone o) (hg : (y.g == g) = true) (hc : Ch wr nx t none) : Ds w wr P F g m K t (gone + 1) nx := by
  obtain ⟨pre, hm⟩ := h.suf
  refine ⟨h.f, hc, ?_, ?_, ?_, ⟨pre ++ [(b, y)], by rw [hm]; simp⟩, ?_, h.ft, h.fa, h.fk, h.fp⟩
  · have := h.nd
    rw [List.map_append, List.map_cons, List.nodup_append, List.nodup_cons] at this
    rw [List.map_append, List.nodup_append]
    exact ⟨this.1, this.2.1.2, fun a ha c hc => this.2.2 a ha c (List.mem_cons_of_mem _ hc)⟩
  · intro n hn
    rcases List.mem_append.1 hn with q | q
    · exact h.gt n (List.mem_append_left _ q)
    · exact h.gt n (List.mem_append_right _ (List.mem_cons_of_mem _ q))
  · rw [h.fil]
    congr 1
    simp [dr, hg]
  · have := h.cnt
    simp at this
    omega
theorem Ds.keep {w wr w3 : World} {P : Nat} {F : Nat → Prop} {g : Int} {m K t : List (Nat × Wt)} {gone : Nat} {b : Nat} {y : Wt} {o nx : Option Nat} (h : Ds w wr P F g m K ((b, y) :: t) gone o) (hg : (y.g == g) = false) (hf : ∃ f last, Hd w3 P f last m.length ∧ Ch w3 f K (some b)) (hs : Sc w3 b y nx) (hc : Ch w3 nx t none) (ft : KF F w w3) : Ds w w3 P F g m (K ++ [(b, y)]) t gone nx := by
  obtain ⟨pre, hm⟩ := h.suf
  obtain ⟨f, last, h1, h2⟩ := hf
  refine ⟨⟨f, nx, last, h1, Ch.app.2 ⟨some b, h2, rfl, nx, hs, rfl⟩⟩, hc, ?_, ?_, ?_, ⟨pre ++ [(b, y)], by rw [hm]; simp⟩, ?_, ft, h.fa, fun n hn => ?_, h.fp⟩
  · have := h.nd
    rw [List.append_cons] at this
    exact this
  · have := h.gt
    rw [List.append_cons] at this
    exact this
  · rw [h.fil]
    simp [dr, hg]
  · have := h.cnt
    simp at this ⊢
    omega
  · rcases List.mem_append.1 hn with q | q
    · exact h.fk n q
    · simp at q
      subst q
      exact h.fa _ (by rw [hm]; simp)
theorem Ds.dj {w wr : World} {P : Nat} {F : Nat → Prop} {g : Int} {m K0 rest : List (Nat × Wt)} {n0 : Nat × Wt} {gone : Nat} {o : Option Nat} (h : Ds w wr P F g m (K0 ++ [n0]) rest gone o) : (∀ n ∈ K0, n.1 ≠ n0.1) ∧ (∀ n ∈ rest, n.1 ≠ n0.1) ∧ P < n0.1 := by
  have := h.nd
  rw [List.append_assoc, List.map_append, List.nodup_append] at this
  refine ⟨fun n hn e => this.2.2 n.1 (List.mem_map.2 ⟨n, hn, rfl⟩) n0.1 (by simp) e, fun n hn e => ?_, h.gt n0 (by simp)⟩
  have h2 := this.2.1
  rw [List.map_append, List.nodup_append] at h2
  exact h2.2.2 n0.1 (by simp) n.1 (List.mem_map.2 ⟨n, hn, rfl⟩) e.symm
/-- the end: all are passed over, the last one's next is nil -/
theorem Ds.fin {w wr w3 : World} {P : Nat} {F : Nat → Prop} {g : Int} {m K : List (Nat × Wt)} {gone : Nat} {o : Option Nat} (h : Ds w wr P F g m K [] gone o) (hm : m.length ≤ 1024) (hbd : Bd F w) (hf : ∃ f last, Hd w3 P f last m.length ∧ Ch w3 f K none) (ft : KF F w w3) (x : Int) (hx : x = (m.length : Int) - (gone : Int)) : KF F w ((w3.setCell ⟨P, 1, none⟩ (pt (lst K))).setCell ⟨P, 2, none⟩ (.int .i64 x)) ∧ PF ((w3.setCell ⟨P, 1, none⟩ (pt (lst K))).setCell ⟨P, 2, none⟩ (.int .i64 x)) P F (dr g (m.map (·.2))) := by
  obtain ⟨f, last, h1, h2⟩ := hf
  have hc := h.cnt
  simp at hc
  have hn := h.nd
  have hg := h.gt
  rw [List.append_nil] at hn hg
  have KK := (ft.set h.fp 1 (pt (lst K))).set h.fp 2 (.int .i64 x)
  refine ⟨KK, ⟨K, ?_, ⟨f, (h1.setL (lst K)).setN K.length x (by omega), (h2.set _ (fun n hn => by have := hg n hn; omega)).set _ (fun n hn => by have := hg n hn; omega), hn, hg, by omega⟩, h.fk, h.fp, hbd.mono KK.size⟩⟩
  rw [h.fil]
  simp [dr]

theorem drop_nil (g : Int) (w : World) :
    Calls Try.prog 60 #[.pointer none, .int .i64 g] w fun r w' => r = .returned (.int .i64 0) ∧ w' = w := by
  go_enter Try.func60, Try.ntmps60
  go_wp2_with fail
  go_step3
  go_wp2_with fail
  rw [Exit.noGoto_ret]
  go_ret
  exact ⟨rfl, rfl⟩
set_option maxRecDepth 100000 in
set_option maxHeartbeats 3200000 in
theorem drop_n (P : Nat) (F : Nat → Prop) (m : List (Nat × Wt)) (g : Int) (w : World) (h : Pn w P m) (hF1 : ∀ n ∈ m, F n.1) (hF2 : F P) (hF3 : Bd F w) :
    Calls Try.prog 60 #[.pointer (some ⟨P, 0, none⟩), .int .i64 g] w fun r w' => (∃ gone : Nat, r = .returned (.int .i64 (gone : Int)) ∧ gone + (dr g (m.map (·.2))).length = m.length) ∧ KF F w w' ∧ PF w' P F (dr g (m.map (·.2))) := by
  obtain ⟨f, h1, h2, h3, h4, h5⟩ := h
  have DS0 : Hid (Ds w w P F g m [] m 0 f) := ⟨⟨f, f, _, h1, rfl⟩, h2, by simpa using h3, by simpa using h4, by simp, ⟨[], rfl⟩, by simp, KF.refl _ _, hF1, fun _ h => by simp at h, hF2⟩
  have FB := hide hF3
  clear hF1 hF2 hF3
  have ND := hide h3
  have y0 : w.cell? ⟨P, 0, none⟩ = some (.pointer (f.map fun b => ⟨b, 0, none⟩)) := cell_of h1 0
  clear h1 h2 h3 h4
  go_enter Try.func60, Try.ntmps60
  go_wp2_with fail
  go_step3
  go_wp2_with fail
  go_step3
  go_wp2_with fail
  go_loopw [5, 6, 7] (fun c st s wr => ∃ (K rest : List (Nat × Wt)) (gone : Nat) (o : Option Nat), c = .int .i64 (gone : Int) ∧ st = pt (lst K) ∧ s = pt o ∧ Ds w wr P F g m K rest gone o) (fun _ _ s _ => ms m s)
  case atStart => exact ⟨[], m, 0, f, rfl, rfl, rfl, DS0.out⟩
  case round =>
    clear DS0 y0
    obtain ⟨K, rest, gone, o, rfl, rfl, rfl, ds⟩ := hrel
    have DS := hide ds
    clear ds
    have hcnt := DS.out.cnt
    cases rest with
    | nil =>
      have e0 : o = none := DS.out.c
      subst e0
      simp at hcnt
      rw [show pt none = .pointer none from rfl]
      obtain ⟨f1, mid1, last1, hd1, ch1⟩ := DS.out.f
      rcases List.eq_nil_or_concat K with rfl | ⟨K0, n0, rfl⟩
      · rw [show pt (lst []) = .pointer none from rfl]
        go_wp2_with fail
        refine (link_none P f1 last1 m.length none _ hd1).mono ?_
        rintro r w3 ⟨rfl, hw3⟩
        have HF : Hid (∃ f last, Hd w3 P f last m.length ∧ Ch w3 f [] none) := by rw [hw3]; exact ⟨none, last1, Hd.setF hd1 none, rfl⟩
        have F3 : Hid (KF F w w3) := by rw [hw3]; exact DS.out.ft.set DS.out.fp 0 _
        clear hw3 hd1 ch1
        obtain ⟨f3, last3, hd3, _⟩ := HF.out
        have y1 := cell_of hd3 1
        have y2 := cell_of hd3 2
        have z1 := frozen_of hd3 1
        have z2 := frozen_of hd3 2
        simp at y1 y2
        clear hd3
        have FI := hide fun x hx => DS.out.fin h5 FB.out HF.out F3.out x hx
        rw [show pt (lst []) = .pointer none from rfl] at FI
        go_wp2_with fail
        try rw [Exit.noGoto_ret]
        go_ret
        exact ⟨⟨gone, by first | rfl | (simp), by have := DS.out.fil; have hc := DS.out.cnt; rw [this]; simp [dr] at hc ⊢; omega⟩, FI.out _ (by omega)⟩
      · rw [List.concat_eq_append] at *
        rw [show pt (lst (K0 ++ [n0])) = .pointer (some ⟨n0.1, 0, none⟩) by rw [lst_app]; rfl]
        obtain ⟨dj1, _, dj3⟩ := DS.out.dj
        go_wp2_with fail
        refine (link_some _ n0.1 n0.2 mid1 none _ ch1.sc).mono ?_
        rintro r w3 ⟨rfl, hw3⟩
        have HF : Hid (∃ f last, Hd w3 P f last m.length ∧ Ch w3 f (K0 ++ [n0]) none) := by rw [hw3]; exact ⟨f1, last1, Hd.other hd1 _ (by omega), ch1.relast dj1 none⟩
        have F3 : Hid (KF F w w3) := by rw [hw3]; exact DS.out.ft.set (DS.out.fk n0 (by simp)) 3 _
        clear hw3 hd1 ch1 dj1
        obtain ⟨f3, last3, hd3, _⟩ := HF.out
        have y1 := cell_of hd3 1
        have y2 := cell_of hd3 2
        have z1 := frozen_of hd3 1
        have z2 := frozen_of hd3 2
        simp at y1 y2
        clear hd3
        have FI := hide fun x hx => DS.out.fin h5 FB.out HF.out F3.out x hx
        rw [show pt (lst (K0 ++ [n0])) = .pointer (some ⟨n0.1, 0, none⟩) by rw [lst_app]; rfl] at FI
        go_wp2_with fail
        try rw [Exit.noGoto_ret]
        go_ret
        exact ⟨⟨gone, by first | rfl | (simp), by have := DS.out.fil; have hc := DS.out.cnt; rw [this]; simp [dr] at hc ⊢; omega⟩, FI.out _ (by omega)⟩
    | cons n t =>
      obtain ⟨b, y⟩ := n
      have eo : o = some b := DS.out.c.1
      subst eo
      obtain ⟨pre0, hpre0⟩ := DS.out.suf
      have MS := hide (ms_ch hpre0 ND.out DS.out.c)
      clear hpre0
      rw [show pt (some b) = .pointer (some ⟨b, 0, none⟩) from rfl] at MS ⊢
      go_wp2_with fail
      go_loop [5, 7] (fun c s => ∃ (b' : Nat) (y' : Wt) (t' : List (Nat × Wt)) (gone' : Nat), c = .int .i64 (gone' : Int) ∧ s = .pointer (some ⟨b', 0, none⟩) ∧ t'.length ≤ t.length ∧ Ds w wr P F g m K ((b', y') :: t') gone' (some b')) (fun _ s => ms m s)
      case atStart => exact ⟨b, y, t, gone, rfl, rfl, Nat.le_refl _, DS.out⟩
      case round =>
        clear DS hcnt
        obtain ⟨b', y', t', gone', rfl, rfl, ht', ds⟩ := hrel
        have DS := hide ds
        clear ds
        have hcnt := DS.out.cnt
        simp at hcnt
        obtain ⟨_, nx, hs, hc⟩ := DS.out.c
        obtain ⟨pre1, hpre1⟩ := DS.out.suf
        have M1 := hide (ms_ch hpre1 ND.out DS.out.c)
        have M2 := hide (ms_ch (pre := pre1 ++ [(b', y')]) (by rw [hpre1]; simp) ND.out hc)
        rw [show pt (some b') = .pointer (some ⟨b', 0, none⟩) from rfl] at M1
        clear hpre1
        have y0 := cell_of hs 0
        have y3 : wr.cell? ⟨b', 3, none⟩ = some (pt nx) := cell_of hs 3
        simp at y0
        have HS := hide hs
        have HC := hide hc
        clear hs hc
        cases hg : y'.g == g
        · skip
          obtain ⟨f1, mid1, last1, hd1, ch1⟩ := DS.out.f
          have hPb := DS.out.gt (b', y') (by simp)
          have hPb2 : P < b' := hPb
          clear hPb
          unfold pt at y3
          generalize hq : nx.map (fun b => (⟨b, 0, none⟩ : Addr)) = q at y3
          have HQ : Hid (Value.pointer q = pt nx) := by show _ = _; rw [← hq]; rfl
          clear hq
          have NB : Hid (∀ n ∈ K ++ t', n.1 ≠ b') := by
            intro n hn e
            have := DS.out.nd
            rw [List.map_append, List.map_cons, List.nodup_append, List.nodup_cons] at this
            rcases List.mem_append.1 hn with z | z
            · exact this.2.2 n.1 (List.mem_map.2 ⟨n, z, rfl⟩) b' (by simp) e
            · exact this.2.1.1 (List.mem_map.2 ⟨n, z, e⟩)
          rcases List.eq_nil_or_concat K with rfl | ⟨K0, n0, rfl⟩
          · rw [show pt (lst []) = .pointer none from rfl]
            go_wp2_with fail
            refine (link_none P f1 last1 m.length (some ⟨b', 0, none⟩) _ hd1).mono ?_
            rintro r w3 ⟨rfl, hw3⟩
            have S3 : Hid (Sc w3 b' y' nx) := by rw [hw3]; exact HS.out.other _ (by omega)
            have D3 : Hid (Ds w w3 P F g m ([] ++ [(b', y')]) t' gone' nx) := by
              refine DS.out.keep hg ⟨some b', last1, by rw [hw3]; exact Hd.setF hd1 (some b'), rfl⟩ S3.out ?_ (by rw [hw3]; exact DS.out.ft.set DS.out.fp 0 _)
              rw [hw3]
              exact HC.out.set _ (fun n hn => by have := DS.out.gt n (by simp [hn]); omega)
            have y4 : w3.cell? ⟨b', 3, none⟩ = some (.pointer q) := by rw [HQ.out]; exact cell_of S3.out 3
            clear hw3 hd1 ch1 y3
            go_wp2_with fail
            go_roundw
            case rel => exact ⟨_, t', gone', nx, rfl, rfl, HQ.out, D3.out⟩
            case measure =>
              have h1 := MS.out
              have h2 := M2.out
              show ms m (.pointer q) < ms m (.pointer (some ⟨b, 0, none⟩))
              rw [HQ.out, h1, h2]
              simp
              omega
          · rw [List.concat_eq_append] at *
            rw [show pt (lst (K0 ++ [n0])) = .pointer (some ⟨n0.1, 0, none⟩) by rw [lst_app]; rfl]
            obtain ⟨dj1, dj2, dj3⟩ := DS.out.dj
            have hn0 : b' ≠ n0.1 := fun e => NB.out n0 (by simp) e.symm
            go_wp2_with fail
            refine (link_some _ n0.1 n0.2 mid1 (some ⟨b', 0, none⟩) _ ch1.sc).mono ?_
            rintro r w3 ⟨rfl, hw3⟩
            have S3 : Hid (Sc w3 b' y' nx) := by rw [hw3]; exact HS.out.other _ hn0
            have D3 : Hid (Ds w w3 P F g m ((K0 ++ [n0]) ++ [(b', y')]) t' gone' nx) := by
              refine DS.out.keep hg ⟨f1, last1, by rw [hw3]; exact Hd.other hd1 _ (by omega), by rw [hw3]; exact ch1.relast dj1 (some b')⟩ S3.out ?_ (by rw [hw3]; exact DS.out.ft.set (DS.out.fk n0 (by simp)) 3 _)
              rw [hw3]
              exact HC.out.set _ (fun n hn => dj2 n (List.mem_cons_of_mem _ hn))
            have y4 : w3.cell? ⟨b', 3, none⟩ = some (.pointer q) := by rw [HQ.out]; exact cell_of S3.out 3
            have EL : Hid (Value.pointer (some ⟨b', 0, none⟩) = pt (lst ((K0 ++ [n0]) ++ [(b', y')]))) := by show _ = _; rw [lst_app]; rfl
            clear hw3 hd1 ch1 dj1 dj2 y3
            go_wp2_with fail
            go_roundw
            case rel => exact ⟨_, t', gone', nx, rfl, EL.out, HQ.out, D3.out⟩
            case measure =>
              have h1 := MS.out
              have h2 := M2.out
              show ms m (.pointer q) < ms m (.pointer (some ⟨b, 0, none⟩))
              rw [HQ.out, h1, h2]
              simp
              omega
        · have D2 := hide (DS.out.skip hg HC.out)
          cases t' with
          | nil =>
            have en : nx = none := HC.out
            subst en
            rw [show pt none = .pointer none from rfl] at y3
            clear DS
            have DS := D2
            clear D2
            simp at hcnt
            obtain ⟨f1, mid1, last1, hd1, ch1⟩ := DS.out.f
            rcases List.eq_nil_or_concat K with rfl | ⟨K0, n0, rfl⟩
            · rw [show pt (lst []) = .pointer none from rfl]
              go_wp2_with fail
              refine (link_none P f1 last1 m.length none _ hd1).mono ?_
              rintro r w3 ⟨rfl, hw3⟩
              have HF : Hid (∃ f last, Hd w3 P f last m.length ∧ Ch w3 f [] none) := by rw [hw3]; exact ⟨none, last1, Hd.setF hd1 none, rfl⟩
              have F3 : Hid (KF F w w3) := by rw [hw3]; exact DS.out.ft.set DS.out.fp 0 _
              clear hw3 hd1 ch1
              obtain ⟨f3, last3, hd3, _⟩ := HF.out
              have y1 := cell_of hd3 1
              have y2 := cell_of hd3 2
              have z1 := frozen_of hd3 1
              have z2 := frozen_of hd3 2
              simp at y1 y2
              clear hd3
              have FI := hide fun x hx => DS.out.fin h5 FB.out HF.out F3.out x hx
              rw [show pt (lst []) = .pointer none from rfl] at FI
              go_wp2_with fail
              try rw [Exit.noGoto_ret]
              go_ret
              exact ⟨⟨gone' + 1, by first | rfl | (simp), by have := DS.out.fil; have hc := DS.out.cnt; rw [this]; simp [dr] at hc ⊢; omega⟩, FI.out _ (by omega)⟩
            · rw [List.concat_eq_append] at *
              rw [show pt (lst (K0 ++ [n0])) = .pointer (some ⟨n0.1, 0, none⟩) by rw [lst_app]; rfl]
              obtain ⟨dj1, _, dj3⟩ := DS.out.dj
              go_wp2_with fail
              refine (link_some _ n0.1 n0.2 mid1 none _ ch1.sc).mono ?_
              rintro r w3 ⟨rfl, hw3⟩
              have HF : Hid (∃ f last, Hd w3 P f last m.length ∧ Ch w3 f (K0 ++ [n0]) none) := by rw [hw3]; exact ⟨f1, last1, Hd.other hd1 _ (by omega), ch1.relast dj1 none⟩
              have F3 : Hid (KF F w w3) := by rw [hw3]; exact DS.out.ft.set (DS.out.fk n0 (by simp)) 3 _
              clear hw3 hd1 ch1 dj1
              obtain ⟨f3, last3, hd3, _⟩ := HF.out
              have y1 := cell_of hd3 1
              have y2 := cell_of hd3 2
              have z1 := frozen_of hd3 1
              have z2 := frozen_of hd3 2
              simp at y1 y2
              clear hd3
              have FI := hide fun x hx => DS.out.fin h5 FB.out HF.out F3.out x hx
              rw [show pt (lst (K0 ++ [n0])) = .pointer (some ⟨n0.1, 0, none⟩) by rw [lst_app]; rfl] at FI
              go_wp2_with fail
              try rw [Exit.noGoto_ret]
              go_ret
              exact ⟨⟨gone' + 1, by first | rfl | (simp), by have := DS.out.fil; have hc := DS.out.cnt; rw [this]; simp [dr] at hc ⊢; omega⟩, FI.out _ (by omega)⟩
          | cons n2 t2 =>
            obtain ⟨b2, y2⟩ := n2
            have en : nx = some b2 := HC.out.1
            subst en
            rw [show pt (some b2) = .pointer (some ⟨b2, 0, none⟩) from rfl] at y3
            go_wp2_with fail
            go_round
            case rel => exact ⟨b2, y2, t2, gone' + 1, by go_num, rfl, by simp at ht'; omega, D2.out⟩
            case measure =>
              have h1 := M1.out
              have h2 := M2.out
              show ms m (pt (some b2)) < ms m (.pointer (some ⟨b', 0, none⟩))
              rw [h1, h2]
              simp

/-- Drop, of whatever pew -/
theorem drop_any (P : Nat) (F : Nat → Prop) (l : List Wt) (g : Int) (w : World) (h : PF w P F l) :
    Calls Try.prog 60 #[.pointer (some ⟨P, 0, none⟩), .int .i64 g] w fun r w' => r = .returned (.int .i64 ((l.length : Int) - ((dr g l).length : Int))) ∧ KF F w w' ∧ PF w' P F (dr g l) := by
  obtain ⟨m, rfl, hn, hF1, hF2, hF3⟩ := h
  refine (drop_n P F m g w hn hF1 hF2 hF3).mono ?_
  rintro r w1 ⟨⟨gone, rfl, hg⟩, h2⟩
  refine ⟨?_, h2⟩
  rw [List.length_map, show ((m.length : Int) - ((dr g (m.map (·.2))).length : Int)) = (gone : Int) by omega]
end Pe
end Go.Proofs.Ytipimagajnocjaa
/- Package pew: List, over this seat's program; rows of waiters. -/
namespace Go.Proofs.Ytipimagajnocjaa
open Go.ChangeShapes Go.WideShapes Go.ChangeAt Go.RowKit
namespace Pe
open Ba

theorem info_wt : (Try.prog.info? 49).map (fun i => (i.zero, i.size, i.bytes)) = some (some (wv ⟨0, 0, 0⟩), 3, 24) := by kernel_rfl
set_option maxRecDepth 100000 in
theorem list_nil (w : World) :
    Calls Try.prog 55 #[.pointer none] w fun r w' => (∃ oa, r = .returned (.slice oa 0 0)) ∧ Below w.heap.size w w' := by
  cases hi : Try.prog.info? 49 with
  | none => have := info_wt; rw [hi] at this; cases this
  | some i =>
  have hx := info_wt
  rw [hi] at hx
  simp at hx
  obtain ⟨hz, hs, hb⟩ := hx
  have hm : (Instr.makeSlice 73 (.int .i64 0) (.int .i64 0)).run Try.prog w = _ := run_make (P := Try.prog) w 73 49 i _ Try.underlying73 hi hz .i64 .i64 0 0 (by omega) (Int.le_refl _) (by rw [hb]; omega) (by omega)
  have B := hide (below_alloc w (.cells (madeCells (wv ⟨0, 0, 0⟩).cells (Int.toNat 0 * i.size)) 49))
  generalize (w.alloc (.cells (madeCells (wv ⟨0, 0, 0⟩).cells (Int.toNat 0 * i.size)) 49)) = w2 at hm B
  go_enter Try.func55, Try.ntmps55
  go_wp2_with fail
  refine (len_nil _).mono ?_
  rintro r w1 ⟨rfl, rfl⟩
  go_wp2_with fail
  refine (front_nil _).mono ?_
  rintro r _ ⟨rfl, rfl⟩
  go_wp2_with fail
  go_loop [3, 4] (fun l s => l = .slice (some ⟨w1.heap.size, 0, none⟩) 0 0 ∧ s = .pointer none) (fun _ _ => 0)
  case atStart => exact ⟨rfl, rfl⟩
  case round =>
    obtain ⟨rfl, rfl⟩ := hrel
    go_wp2_with fail
    go_ret
    exact ⟨⟨_, rfl⟩, B.out⟩

/-- the cells of waiters -/
def wc (l : List Wt) : List Value := l.flatMap fun x => [.int .i64 x.g, .int .i64 x.c, .int .i64 x.v]
theorem wc_nil : wc [] = [] := rfl
theorem wc_cons (x : Wt) (l : List Wt) : wc (x :: l) = .int .i64 x.g :: .int .i64 x.c :: .int .i64 x.v :: wc l := rfl
theorem wc_app (l m : List Wt) : wc (l ++ m) = wc l ++ wc m := by simp [wc]
theorem wc_len (l : List Wt) : (wc l).length = l.length * 3 := by
  induction l with
  | nil => rfl
  | cons x l ih => rw [wc_cons]; simp; omega
theorem wc_at : ∀ (l : List Wt) (k : Nat) (x : Wt), l[k]? = some x → (wc l)[k * 3]? = some (.int .i64 x.g) ∧ (wc l)[k * 3 + 1]? = some (.int .i64 x.c) ∧ (wc l)[k * 3 + 2]? = some (.int .i64 x.v)
  | [], _, _, h => by simp at h
  | y :: l, 0, x, h => by simp at h; subst h; exact ⟨rfl, rfl, rfl⟩
  | y :: l, k + 1, x, h => by
    rw [wc_cons]
    have := wc_at l k x (by simpa using h)
    rw [show (k + 1) * 3 = k * 3 + 3 by omega]
    exact this
theorem wc_one (l : List Wt) : ∀ u ∈ wc l, u.oneCell' = true := by
  induction l with
  | nil => intro u hu; simp [wc_nil] at hu
  | cons x l ih =>
    intro u hu
    rw [wc_cons] at hu
    simp at hu
    rcases hu with rfl | rfl | rfl | hu
    · rfl
    · rfl
    · rfl
    · exact ih u hu
/-- the cells from oa on are those of the waiters l -/
def WAt (w : World) (oa : Option Addr) (l : List Wt) : Prop :=
  ∀ k x, l[k]? = some x → ∃ b off, oa = some ⟨b, off, none⟩ ∧ w.cell? ⟨b, off + k * 3, none⟩ = some (.int .i64 x.g) ∧ w.cell? ⟨b, off + k * 3 + 1, none⟩ = some (.int .i64 x.c) ∧ w.cell? ⟨b, off + k * 3 + 2, none⟩ = some (.int .i64 x.v)
theorem WAt.nil (w : World) (oa : Option Addr) : WAt w oa [] := fun _ _ h => by simp at h
theorem WAt.below {w w' : World} {oa : Option Addr} {l : List Wt} (h : WAt w oa l) (hb : Below w.heap.size w w') : WAt w' oa l := by
  intro k x hk
  obtain ⟨b, off, e, h0, h1, h2⟩ := h k x hk
  exact ⟨b, off, e, (hb.cell (World.block_lt_of_cell? w _ h0)).trans h0, (hb.cell (World.block_lt_of_cell? w _ h1)).trans h1, (hb.cell (World.block_lt_of_cell? w _ h2)).trans h2⟩
theorem owns_wat {w : World} {base : Nat} {e : TypeId} {v : Value} {l : List Wt} (h : w.ownsRow base e 3 v l.length (wc l)) : ∃ oa c, v = .slice oa l.length c ∧ WAt w oa l ∧ l.length ≤ c ∧ ∀ a, oa = some a → base ≤ a.block := by
  rcases h.2 with ⟨rfl, h0⟩ | ⟨g, cap, cur, rfl, hbase, hg, hc, _, hcs, htk⟩
  · refine ⟨none, 0, by rw [h0], ?_, by omega, fun a e => by cases e⟩
    obtain rfl := List.eq_nil_of_length_eq_zero h0
    exact WAt.nil _ _
  · refine ⟨_, cap, rfl, ?_, hc, fun a e => by cases e; exact hbase⟩
    intro k x hk
    have hkl := (List.getElem?_eq_some_iff.1 hk).1
    obtain ⟨q0, q1, q2⟩ := wc_at l k x hk
    rw [← htk, List.getElem?_take_of_lt (by omega)] at q0 q1 q2
    refine ⟨g, 0, rfl, ?_, ?_, ?_⟩
    · rw [Nat.zero_add, cell_of hg]; simpa using q0
    · rw [Nat.zero_add, cell_of hg]; simpa using q1
    · rw [Nat.zero_add, cell_of hg]; simpa using q2
theorem src3 (w : World) (x : Wt) (t : TypeId) : ∀ j u, (wc [x])[j]? = some u → (w.alloc (.cells #[.int .i64 x.g, .int .i64 x.c, .int .i64 x.v] t)).cell? ((⟨w.heap.size, 0, none⟩ : Addr).add j) = some u := by
  intro j u hj
  rw [Addr.add_lit, Nat.zero_add, cell_of (heap_new _ _)]
  rw [wc_cons, wc_nil] at hj
  rw [← hj]
  simp

set_option maxRecDepth 100000 in
set_option maxHeartbeats 1600000 in
theorem list_new (P : Nat) (l : List Wt) (w : World) (h : Pw w P l) :
    Calls Try.prog 55 #[.pointer (some ⟨P, 0, none⟩)] w fun r w' => ∃ oa c, r = .returned (.slice oa l.length c) ∧ WAt w' oa l ∧ Below w.heap.size w w' ∧ ∀ a, oa = some a → w.heap.size ≤ a.block := by
  cases hi : Try.prog.info? 49 with
  | none => have := info_wt; rw [hi] at this; cases this
  | some i =>
  have hx := info_wt
  rw [hi] at hx
  simp at hx
  have INF := hide (And.intro hi hx)
  obtain ⟨hz, hs, hb⟩ := hx
  have PW := hide h
  have hle := h.le
  obtain ⟨m, rfl, f, h1, h2, h3, h4, h5⟩ := h
  obtain ⟨n, hn⟩ : ∃ n, n = (m.map (·.2)).length := ⟨_, rfl⟩
  have LN := hide (len_any P _ w PW.out)
  rw [← hn] at LN hle
  have hm : (Instr.makeSlice 73 (.int .i64 0) (.int .i64 (n : Int))).run Try.prog w = .ok (.slice (some ⟨w.heap.size, 0, none⟩) 0 n) (w.alloc (.cells (madeCells (wv ⟨0, 0, 0⟩).cells (n * 3)) 49)) := by
    have := run_make (P := Try.prog) w 73 49 i _ Try.underlying73 hi hz .i64 .i64 0 n (by omega) (by omega) (by rw [hb]; omega) (by omega)
    rw [hs] at this
    simpa using this
  have OW := hide (World.ownsRow_made (base := w.heap.size) (e := 49) (size := 3) w (madeCells (wv ⟨0, 0, 0⟩).cells (n * 3)) n (Nat.le_refl _) (by unfold maxLen; omega) (size_madeCells _ _))
  have BW := hide (below_alloc w (.cells (madeCells (wv ⟨0, 0, 0⟩).cells (n * 3)) 49))
  generalize w.alloc (.cells (madeCells (wv ⟨0, 0, 0⟩).cells (n * 3)) 49) = w2 at hm OW BW
  have HC := hide h2
  have ND := hide h3
  have HN := hide hn
  have y0 : w2.cell? ⟨P, 0, none⟩ = some (pt f) := cell_of (heap_below h1 BW.out) 0
  have FR := hide (front_c P (f.map fun b => ⟨b, 0, none⟩) w2 y0)
  clear h1 h2 h3 h4 h5 y0 hn hi hz hs hb PW
  go_enter Try.func55, Try.ntmps55
  go_wp2_with fail
  refine LN.out.mono ?_
  rintro r w1 ⟨rfl, rfl⟩
  go_wp2_with fail
  refine FR.out.mono ?_
  rintro r _ ⟨rfl, rfl⟩
  go_wp2_with fail
  go_loopw [3, 4] (fun lv s wr => ∃ (v : Value) (pre rest : List (Nat × Wt)) (o : Option Nat), lv = v ∧ s = pt o ∧ m = pre ++ rest ∧ Ch w1 o rest none ∧ wr.ownsRow w1.heap.size 49 3 v (pre.map (·.2)).length (wc (pre.map (·.2))) ∧ Below w1.heap.size w1 wr) (fun _ s _ => ms m s)
  case atStart => exact ⟨_, [], m, f, rfl, rfl, rfl, HC.out, OW.out, BW.out⟩
  case round =>
    clear OW BW HC FR LN
    obtain ⟨v, pre, rest, o, rfl, rfl, hmm, hc, ho, hb⟩ := hrel
    cases rest with
    | nil =>
      have e0 : o = none := hc
      subst e0
      rw [List.append_nil] at hmm
      subst hmm
      obtain ⟨oa, c, rfl, hw, _, hnew⟩ := owns_wat ho
      have HW := hide hw
      have HB := hide hb
      have HNW := hide hnew
      clear hw hb ho hc hnew
      rw [show pt none = .pointer none from rfl]
      go_wp2_with fail
      go_ret
      exact ⟨oa, c, rfl, HW.out, HB.out, HNW.out⟩
    | cons nd t =>
      obtain ⟨b, y⟩ := nd
      have MS := hide (ms_ch hmm ND.out hc)
      obtain ⟨rfl, nx, hs, hc2⟩ := hc
      have MT := hide (ms_ch (pre := pre ++ [(b, y)]) (by rw [hmm]; simp) ND.out hc2)
      have hs1 := heap_below hs hb
      have z0 := cell_of hs1 0
      have z1 := cell_of hs1 1
      have z2 := cell_of hs1 2
      have z3 : wr.cell? ⟨b, 3, none⟩ = some (pt nx) := cell_of hs1 3
      simp at z0 z1 z2
      have hpl : (pre.map (·.2)).length ≤ 1024 := by
        have := HN.out
        rw [hmm] at this
        simp at this ⊢
        omega
      have HM := hide hmm
      have HC2 := hide hc2
      have HS := hide hs
      have OW := hide (own_below ho (below_alloc wr (.cells #[.int .i64 y.g, .int .i64 y.c, .int .i64 y.v] 49)))
      have SR := hide (src3 wr y 49)
      have HB := hide (btr hb (below_alloc wr (.cells #[.int .i64 y.g, .int .i64 y.c, .int .i64 y.v] 49)))
      clear hmm hc2 hs hs1 hb
      obtain ⟨X, hX⟩ : ∃ X, X = pre.map (·.2) := ⟨_, rfl⟩
      rw [← hX] at OW hpl ho
      have HX := hide hX
      clear hX
      rw [show pt (some b) = .pointer (some ⟨b, 0, none⟩) from rfl] at *
      unfold pt at z3
      generalize hq : nx.map (fun b => (⟨b, 0, none⟩ : Addr)) = q at z3
      have HQ : Hid (Value.pointer q = pt nx) := by show _ = _; rw [← hq]; rfl
      clear hq ho
      go_wp2_with (at_builtin; refine wpList_append_own _ rfl _ _ 73 rfl w1.heap.size 49 i (wv ⟨0, 0, 0⟩) 3 24 Try.underlying73 INF.out.1 INF.out.2.1 INF.out.2.2.1 INF.out.2.2.2 rfl (by decide) _ _ _ rfl OW.out ⟨wr.heap.size, 0, none⟩ 1 1 (wc [y]) rfl rfl ?c1 ?c2 ?c3 ?c4 ?c5 ?_)
      case c1 => first | exact SR.out | exact fun j u hj => hj
      case c2 => exact wc_one _
      case c3 => unfold maxLen; omega
      case c4 => omega
      case c5 => first | exact HB.out.size | (have := HB.out.size; rw [World.size_alloc] at this; exact this)
      intro v' w3 ho hg _
      have B3 : Hid (Below w1.heap.size w1 w3) := HB.out.grown hg HB.out.size (fun x hx => (OW.out.lt x hx).1)
      have O3 : Hid (w3.ownsRow w1.heap.size 49 3 v' ((pre ++ [(b, y)]).map (·.2)).length (wc ((pre ++ [(b, y)]).map (·.2)))) := by
        show World.ownsRow _ _ _ _ _ _ _
        rw [List.map_append, wc_app, List.length_append, ← HX.out]
        exact ho
      have z4 : w3.cell? ⟨b, 3, none⟩ = some (.pointer q) := by rw [HQ.out]; exact cell_of (heap_below HS.out B3.out) 3
      clear ho hg OW SR HB z0 z1 z2 z3
      go_wp2_with fail
      go_roundw
      case rel => exact ⟨v', pre ++ [(b, y)], t, nx, rfl, HQ.out, by rw [HM.out]; simp, HC2.out, O3.out, B3.out⟩
      case measure =>
        have h1 := MS.out
        have h2 := MT.out
        show ms m (.pointer q) < ms m (.pointer (some ⟨b, 0, none⟩))
        rw [HQ.out, h1, h2]
        simp
theorem list_any (P : Nat) (l : List Wt) (w : World) (h : Pw w P l) :
    Calls Try.prog 55 #[.pointer (some ⟨P, 0, none⟩)] w fun r w' => ∃ oa c, r = .returned (.slice oa l.length c) ∧ WAt w' oa l ∧ Below w.heap.size w w' := by
  refine (list_new P l w h).mono ?_
  rintro r w1 ⟨oa, c, rfl, h1, h2, -⟩
  exact ⟨oa, c, rfl, h1, h2⟩
theorem WAt.keep {w w' : World} {oa : Option Addr} {l : List Wt} (h : WAt w oa l) (hk : ∀ a, oa = some a → w'.heap[a.block]? = w.heap[a.block]?) : WAt w' oa l := by
  intro k x hx
  obtain ⟨b, off, e, h0, h1, h2⟩ := h k x hx
  have q := hk _ e
  simp only at q
  refine ⟨b, off, e, ?_, ?_, ?_⟩
  · rw [← h0]; simp only [World.cell?, q]
  · rw [← h1]; simp only [World.cell?, q]
  · rw [← h2]; simp only [World.cell?, q]
theorem WAt.lt {w : World} {oa : Option Addr} {l : List Wt} (h : WAt w oa l) (hl : 0 < l.length) (a : Addr) (e : oa = some a) : a.block < w.heap.size := by
  obtain ⟨b, off, e2, h0, h1, h2⟩ := h 0 _ (List.getElem?_eq_getElem hl)
  rw [e] at e2
  cases e2
  exact World.block_lt_of_cell? w _ h0
theorem WAt.keep' {w w' : World} {F : Nat → Prop} {oa : Option Addr} {l : List Wt} (h : WAt w oa l) (k : KF F w w') (hn : ∀ a, oa = some a → ¬ F a.block) (hl : 0 < l.length) : WAt w' oa l :=
  h.keep fun a e => k.block a.block (h.lt hl a e) (hn a e)
/-- a list in new blocks stays, whatever is done to F -/
theorem WAt.kf {w w' : World} {F : Nat → Prop} {oa : Option Addr} {l : List Wt} (h : WAt w oa l) (k : KF F w w') (hn : ∀ a, oa = some a → ¬ F a.block) : WAt w' oa l := by
  intro j x hx
  have hl : 0 < l.length := Nat.lt_of_le_of_lt (Nat.zero_le _) (List.getElem?_eq_some_iff.1 hx).1
  exact h.keep' k hn hl j x hx
end Pe
end Go.Proofs.Ytipimagajnocjaa
