import Derived.Test.YtiobcfldnfiiaaaGreatZjEg13
import Derived.Deep.DeepCutAuto
import Derived.Deep.RegionWith
import Derived.Lib.Slices
import Derived.Deep.RegionHeld3
import Derived.SizedLaws
/- Package sheet: the reader's list and program, over this seat's program. -/
namespace Go.Proofs.YtiobcfldnfiiaaaGreat
open Go.ChangeShapes Go.WideShapes Go.ChangeAt Go.RowKit
namespace Sh
open De Ba Re

/-- the operation with which bytes begin, of p programs, and how many bytes it has -/
def dop (p : Int) (S : ByteArray) : Option (OpD × Nat) := if (rop S false).2.2 = false ∧ chk (rop S false).1 p = 0 then some ((rop S false).1, (eop (rop S false).1).length) else none
/-- so many operations from z on, and where one stands behind them -/
def rops (p : Int) (s : ByteArray) (z : Nat) : Nat → Option (List OpD × Nat)
  | 0 => some ([], z)
  | n + 1 => match rops p s z n with
    | none => none
    | some (l, y) => match dop p (s.extract y s.size) with
      | none => none
      | some (o, k) => some (l ++ [o], y + k)
theorem cat_kb {R : Nat} {w w' : World} {oa : Option Addr} {l : List Cs} (k : De.KB R w w') (h : CAt w oa l) (hb : ∀ a, oa = some a → a.block ≠ R) : CAt w' oa l := by
  intro j x hj
  obtain ⟨b, off, rfl, h1, h2, h3⟩ := h j x hj
  exact ⟨b, off, rfl, kb_cell k h1 (hb _ rfl), kb_cell k h2 (hb _ rfl), kb_cell k h3 (hb _ rfl)⟩
/-- a row of operations in block g, the cases of each in blocks from N on -/
def OF (w : World) (N g : Nat) (l : List OpD) : Prop :=
  ∀ t o, l[t]? = some o → ∃ ca cc, (w.cell? ⟨g, t * 5, none⟩ = some (.int .i64 o.kind) ∧ w.cell? ⟨g, t * 5 + 1, none⟩ = some (.int .i64 o.a) ∧ w.cell? ⟨g, t * 5 + 2, none⟩ = some (.int .i64 o.b) ∧ w.cell? ⟨g, t * 5 + 3, none⟩ = some (.slice ca o.cases.length cc) ∧ w.cell? ⟨g, t * 5 + 4, none⟩ = some (.bool o.def_)) ∧ CAt w ca o.cases ∧ (∀ a, ca = some a → N ≤ a.block) ∧ o.cases.length ≤ 3000
/-- there is room for n operations in block g -/
def OR (w : World) (g n : Nat) : Prop := (∀ c, c < n * 5 → (w.cell? ⟨g, c, none⟩).isSome = true) ∧ ∀ c, w.frozen? ⟨g, c, none⟩ = false
theorem OF.kb {w w' : World} {N g R : Nat} {l : List OpD} (h : OF w N g l) (k : De.KB R w w') (h1 : R < N) (h2 : g ≠ R) : OF w' N g l := by
  intro t o ht
  obtain ⟨ca, cc, ⟨q0, q1, q2, q3, q4⟩, hC, hN, hl⟩ := h t o ht
  exact ⟨ca, cc, ⟨kb_cell k q0 h2, kb_cell k q1 h2, kb_cell k q2 h2, kb_cell k q3 h2, kb_cell k q4 h2⟩, cat_kb k hC (fun a e => by have := hN a e; omega), hN, hl⟩
theorem OR.kb {w w' : World} {g n R : Nat} (h : OR w g n) (k : De.KB R w w') (hg : g < w.heap.size) (h2 : g ≠ R) : OR w' g n := by
  have hb := k.block g hg h2
  refine ⟨fun c hc => ?_, fun c => ?_⟩
  · have := h.1 c hc
    rw [World.cell?] at this ⊢
    rw [hb]
    exact this
  · have := h.2 c
    rw [World.frozen?] at this ⊢
    rw [hb]
    exact this
theorem OF.at {w : World} {N g : Nat} {l : List OpD} (h : OF w N g l) : OAt w (some ⟨g, 0, none⟩) l := by
  intro k o hk
  obtain ⟨ca, cc, ⟨q0, q1, q2, q3, q4⟩, hC, _, hl⟩ := h k o hk
  refine ⟨g, 0, ca, cc, rfl, ⟨?_, ?_, ?_, ?_, ?_⟩, hC, by unfold maxLen; omega⟩ <;> rw [Nat.zero_add] <;> assumption
theorem OF.store {w : World} {N g n j : Nat} {l : List OpD} (h : OF w N g l) (hr : OR w g n) (hg : g < N) (hl : l.length = j) (hj : j < n) (o : OpD) (ca : Option Addr) (cc : Nat) (hC : CAt w ca o.cases) (hN : ∀ a, ca = some a → N ≤ a.block) (h4 : o.cases.length ≤ 3000) (w' : World) (hw : w' = w.setCells g (j * 5) [.int .i64 o.kind, .int .i64 o.a, .int .i64 o.b, .slice ca o.cases.length cc, .bool o.def_]) : OF w' N g (l ++ [o]) ∧ OR w' g n := by
  subst hw
  have cin := World.cell?_setCells_in g [.int .i64 o.kind, .int .i64 o.a, .int .i64 o.b, .slice ca o.cases.length cc, .bool o.def_] (j * 5) w (fun i hi => hr.1 _ (by simp at hi; omega))
  have cout : ∀ x : Addr, (x.block = g → x.spot = none → x.off < j * 5 ∨ j * 5 + 5 ≤ x.off) → (w.setCells g (j * 5) [.int .i64 o.kind, .int .i64 o.a, .int .i64 o.b, .slice ca o.cases.length cc, .bool o.def_]).cell? x = w.cell? x := World.cell?_setCells_out g [.int .i64 o.kind, .int .i64 o.a, .int .i64 o.b, .slice ca o.cases.length cc, .bool o.def_] (j * 5) w
  have cat : ∀ (ca' : Option Addr) (cs : List Cs), CAt w ca' cs → (∀ a, ca' = some a → N ≤ a.block) → CAt (w.setCells g (j * 5) [.int .i64 o.kind, .int .i64 o.a, .int .i64 o.b, .slice ca o.cases.length cc, .bool o.def_]) ca' cs := by
    intro ca' cs hc hn i x hi
    obtain ⟨b, off, rfl, h1, h2, h3⟩ := hc i x hi
    have hb := hn _ rfl
    simp only at hb
    refine ⟨b, off, rfl, ?_, ?_, ?_⟩ <;> (rw [cout]; assumption; intro e; simp only at e; omega)
  refine ⟨?_, ?_, ?_⟩
  · intro t x ht
    by_cases e : t < l.length
    · rw [List.getElem?_append_left e] at ht
      obtain ⟨ca', cc', ⟨q0, q1, q2, q3, q4⟩, hC', hN', hl'⟩ := h t x ht
      refine ⟨ca', cc', ⟨?_, ?_, ?_, ?_, ?_⟩, cat _ _ hC' hN', hN', hl'⟩ <;> (rw [cout]; assumption; intro _ _; simp only; omega)
    · have ht2 : t = j := by
        have := (List.getElem?_eq_some_iff.1 ht).1
        rw [List.length_append, List.length_cons, List.length_nil] at this
        omega
      subst ht2
      rw [List.getElem?_append_right (by omega), hl, Nat.sub_self] at ht
      simp at ht
      subst ht
      refine ⟨ca, cc, ⟨?_, ?_, ?_, ?_, ?_⟩, cat _ _ hC hN, hN, h4⟩
      · exact cin 0 (by simp)
      · exact cin 1 (by simp)
      · exact cin 2 (by simp)
      · exact cin 3 (by simp)
      · exact cin 4 (by simp)
  · intro c hc
    by_cases e : c < j * 5 ∨ j * 5 + 5 ≤ c
    · rw [cout _ (fun _ _ => e)]
      exact hr.1 c hc
    · have := cin (c - j * 5) (by simp; omega)
      rw [show j * 5 + (c - j * 5) = c by omega] at this
      rw [this]
      rfl
  · intro c
    rw [World.frozen?_setCells]
    exact hr.2 c
end Sh
end Go.Proofs.YtiobcfldnfiiaaaGreat
/- Package sheet: the reader's program, over this seat's program. -/
namespace Go.Proofs.YtiobcfldnfiiaaaGreat
open Go.ChangeShapes Go.WideShapes Go.ChangeAt Go.RowKit
namespace Sh
open De Ba Re

theorem OR.new (w : World) (n : Nat) (MC : Array Value) (t : TypeId) (h : MC.size = n * 5) : OR (w.alloc (.cells MC t)) w.heap.size n := by
  have hh := heap_new w (.cells MC t)
  refine ⟨fun c hc => ?_, fun c => frozen_of hh c⟩
  rw [cell_of hh, Array.getElem?_eq_getElem (by omega)]
  rfl
/-- a program from z on, and where one stands behind it -/
def rprog (p : Int) (s : ByteArray) (z : Nat) : Option (List OpD × Nat) := match up1 32 ((nbs s).drop z) with
  | none => none
  | some (n, k) => rops p s (z + k) n
end Sh
end Go.Proofs.YtiobcfldnfiiaaaGreat
/- Package sheet: Decode, over this seat's program. -/
namespace Go.Proofs.YtiobcfldnfiiaaaGreat
open Go.ChangeShapes Go.WideShapes Go.ChangeAt Go.RowKit
namespace Sh
open De Ba Re

/-- so many programs from z on, of p programs, and where one stands behind them -/
def rprogs (p : Int) (s : ByteArray) (z : Nat) : Nat → Option (List (List OpD) × Nat)
  | 0 => some ([], z)
  | n + 1 => match rprogs p s z n with
    | none => none
    | some (l, y) => match rprog p s y with
      | none => none
      | some (q, y') => some (l ++ [q], y')
/-- a script's head -/
def shead (s : ByteArray) : Option (Nat × Nat × Nat × Nat) := match up1 256 (nbs s) with
  | none => none
  | some (t, k1) => match up1 1048576 ((nbs s).drop k1) with
    | none => none
    | some (m, k2) => match up1 8 ((nbs s).drop (k1 + k2)) with
      | none => none
      | some (n, k3) => some (t, m, n, k1 + k2 + k3)
/-- the script that bytes are -/
def sdec (s : ByteArray) : Option Sc := match shead s with
  | none => none
  | some (t, m, n, z3) => match rprogs n s z3 n with
    | none => none
    | some (ps, z) => match tl ((nbs s).drop z) 200 with
      | .error _ => none
      | .ok (xs, k5) => match tl ((nbs s).drop (z + k5)) 64 with
        | .error _ => none
        | .ok (ys, k6) => if z + k5 + k6 = s.size ∧ schk ⟨t, m, ps, mv (-1) xs, ys⟩ = 0 then some ⟨t, m, ps, mv (-1) xs, ys⟩ else none
/-- programs in a row of slices: each in a block of its own, from N on -/
def PF (w : World) (N : Nat) (arr : Array Value) (ps : List (List OpD)) : Prop :=
  ∀ (t : Nat) (q : List OpD), ps[t]? = some q → ∃ (g c : Nat), arr[t]? = some (.slice (some ⟨g, 0, none⟩) q.length c) ∧ OF w (g + 1) g q ∧ N ≤ g ∧ q.length ≤ 1000
theorem PF.kb {w w' : World} {N R : Nat} {arr : Array Value} {ps : List (List OpD)} (h : PF w N arr ps) (k : De.KB R w w') (hR : R < N) : PF w' N arr ps := by
  intro t q ht
  obtain ⟨g, c, h1, h2, h3, h4⟩ := h t q ht
  exact ⟨g, c, h1, h2.kb k (by omega) (by omega), h3, h4⟩
theorem PF.store {w : World} {N : Nat} {arr : Array Value} {ps : List (List OpD)} (h : PF w N arr ps) (k : Nat) (hk : ps.length = k) (hs : k < arr.size) (g c : Nat) (q : List OpD) (hq : OF w (g + 1) g q) (hN : N ≤ g) (h32 : q.length ≤ 1000) : PF w N (arr.setIfInBounds k (.slice (some ⟨g, 0, none⟩) q.length c)) (ps ++ [q]) := by
  intro t x ht
  by_cases e : t < ps.length
  · rw [List.getElem?_append_left e] at ht
    obtain ⟨g', c', h1, h2, h3, h4⟩ := h t x ht
    exact ⟨g', c', by rw [Array.getElem?_setIfInBounds_ne (by omega)]; exact h1, h2, h3, h4⟩
  · have hl := (List.getElem?_eq_some_iff.1 ht).1
    rw [List.length_append, List.length_cons, List.length_nil] at hl
    have : t = k := by omega
    subst this
    rw [List.getElem?_append_right (by omega), hk, Nat.sub_self] at ht
    simp at ht
    subst ht
    exact ⟨g, c, by rw [Array.getElem?_setIfInBounds_self_of_lt hs], hq, hN, h32⟩
theorem PF.at {w : World} {N G : Nat} {arr : Array Value} {ps : List (List OpD)} {t : TypeId} (h : PF w N arr ps) (hg : w.heap[G]? = some (.cells arr t (0, 0))) : PAt w (some ⟨G, 0, none⟩) ps := by
  intro k q hk
  obtain ⟨g, c, h1, h2, _, h4⟩ := h k q hk
  exact ⟨G, 0, _, _, rfl, by rw [Nat.zero_add, cell_of hg]; exact h1, h2.at, by unfold maxLen; omega⟩
/-- what the head has told -/
def HD (s : ByteArray) (T M : Int) (n z : Nat) (f : Bool) : Prop := (f = true ∧ sdec s = none) ∨ (f = false ∧ ∃ t m : Nat, T = t ∧ M = m ∧ shead s = some (t, m, n, z))
/-- how far programs are read -/
def LP (s : ByteArray) (T M : Int) (n z k y : Nat) (f : Bool) (w : World) (N : Nat) (arr : Array Value) (ps : List (List OpD)) : Prop := (f = true ∧ sdec s = none) ∨ (f = false ∧ (∃ t m : Nat, T = t ∧ M = m ∧ shead s = some (t, m, n, z)) ∧ rprogs n s z k = some (ps, y) ∧ PF w N arr ps)
/-- what Decode answers -/
def DRes (s : ByteArray) (r : Ending) (w' : World) : Prop :=
  (sdec s = none ∧ r = .returned (.tuple #[.agg #[.int .i64 0, .int .i64 0, .slice none 0 0, .slice none 0 0, .slice none 0 0], .int .i64 4])) ∨
  ∃ T M ps pl dr pa la da pc lc dc, sdec s = some ⟨T, M, ps, pl, dr⟩ ∧ r = .returned (.tuple #[.agg #[.int .i64 T, .int .i64 M, .slice pa ps.length pc, .slice la pl.length lc, .slice da dr.length dc], .int .i64 0]) ∧ SAt w' ⟨T, M, ps, pl, dr⟩ pa la da
end Sh
end Go.Proofs.YtiobcfldnfiiaaaGreat
/- Package sheet: copies of rows of programs, operations, cases, over this seat's program. -/
namespace Go.Proofs.YtiobcfldnfiiaaaGreat
open Go.ChangeShapes Go.WideShapes Go.ChangeAt Go.RowKit
namespace Sh
open De Ba Re

theorem cs_get {w : World} {b off : Nat} {cs : List Value} (hA : CsAt w (some ⟨b, off, none⟩) cs) {j : Nat} (hj : j < cs.length) {v : Value} (hc : w.cell? ⟨b, off + j, none⟩ = some v) : cs[j]? = some v := by
  obtain ⟨b', off', he, h2⟩ := hA j cs[j] (List.getElem?_eq_getElem hj)
  cases he
  rw [hc] at h2
  rw [List.getElem?_eq_getElem hj, ← h2]
theorem row_cell (w : World) (cs : List Value) (t : TypeId) (j : Nat) : (w.alloc (.cells cs.toArray t)).cell? ⟨w.heap.size, j, none⟩ = cs[j]? := by
  rw [cell_of (heap_new _ _), List.getElem?_toArray]
end Sh
end Go.Proofs.YtiobcfldnfiiaaaGreat
/- Package sheet: Copy, over this seat's program. -/
namespace Go.Proofs.YtiobcfldnfiiaaaGreat
open Go.ChangeShapes Go.WideShapes Go.ChangeAt Go.RowKit
namespace Sh
open De Ba Re

/-- a copied program's row: of the first k operations the cases are copied, too -/
def OM (w : World) (N0 g k : Nat) (l : List OpD) : Prop :=
  ∀ (t : Nat) (o : OpD), l[t]? = some o → ∃ ca cc, (w.cell? ⟨g, t * 5, none⟩ = some (.int .i64 o.kind) ∧ w.cell? ⟨g, t * 5 + 1, none⟩ = some (.int .i64 o.a) ∧ w.cell? ⟨g, t * 5 + 2, none⟩ = some (.int .i64 o.b) ∧ w.cell? ⟨g, t * 5 + 3, none⟩ = some (.slice ca o.cases.length cc) ∧ w.cell? ⟨g, t * 5 + 4, none⟩ = some (.bool o.def_)) ∧ CAt w ca o.cases ∧ (t < k → ∀ a, ca = some a → g + 1 ≤ a.block) ∧ (¬ t < k → ∀ a, ca = some a → o.cases ≠ [] → a.block < N0) ∧ o.cases.length ≤ 3000
theorem cat_lt {w : World} {oa : Option Addr} {l : List Cs} (h : CAt w oa l) (hl : l ≠ []) (a : Addr) (e : oa = some a) : a.block < w.heap.size := by
  cases l with
  | nil => exact absurd rfl hl
  | cons x t =>
    obtain ⟨b, off, rfl, h1, _⟩ := h 0 x rfl
    cases e
    exact World.block_lt_of_cell? w _ h1
theorem cat_kb' {R : Nat} {w w' : World} {oa : Option Addr} {l : List Cs} (k : De.KB R w w') (h : CAt w oa l) (hb : ∀ a, oa = some a → l ≠ [] → a.block ≠ R) : CAt w' oa l := by
  intro j x hj
  obtain ⟨b, off, rfl, h1, h2, h3⟩ := h j x hj
  have hne : l ≠ [] := by
    rintro rfl
    simp at hj
  exact ⟨b, off, rfl, kb_cell k h1 (hb _ rfl hne), kb_cell k h2 (hb _ rfl hne), kb_cell k h3 (hb _ rfl hne)⟩
theorem OM.start {w wr : World} {oa : Option Addr} {q : List OpD} {cs : List Value} (hO : OAt w oa q) (hb : Below w.heap.size w wr) (hl : cs.length = q.length * 5) (hA : CsAt wr oa cs) (h3 : ∀ o ∈ q, o.cases.length ≤ 3000) : OM (wr.alloc (.cells cs.toArray 49)) w.heap.size wr.heap.size 0 q := by
  intro t o ht
  obtain ⟨b, off, ca, cc, rfl, ⟨q0, q1, q2, q3, q4⟩, hC, _⟩ := hO t o ht
  have htl := (List.getElem?_eq_some_iff.1 ht).1
  refine ⟨ca, cc, ⟨?_, ?_, ?_, ?_, ?_⟩, (hC.below hb).below (below_alloc _ _), fun h => absurd h (Nat.not_lt_zero _), fun _ a e hne => cat_lt hC hne a e, h3 o (List.mem_of_getElem? ht)⟩
  · rw [row_cell]; exact cs_get hA (by omega) (cellB q0 hb)
  · rw [row_cell]; exact cs_get hA (by omega) (by rw [← Nat.add_assoc]; exact cellB q1 hb)
  · rw [row_cell]; exact cs_get hA (by omega) (by rw [← Nat.add_assoc]; exact cellB q2 hb)
  · rw [row_cell]; exact cs_get hA (by omega) (by rw [← Nat.add_assoc]; exact cellB q3 hb)
  · rw [row_cell]; exact cs_get hA (by omega) (by rw [← Nat.add_assoc]; exact cellB q4 hb)
theorem OM.below {w w' : World} {N0 g k : Nat} {l : List OpD} (h : OM w N0 g k l) (hb : Below w.heap.size w w') : OM w' N0 g k l := by
  intro t o ht
  obtain ⟨ca, cc, ⟨q0, q1, q2, q3, q4⟩, hC, h1, h2, h3⟩ := h t o ht
  exact ⟨ca, cc, ⟨cellB q0 hb, cellB q1 hb, cellB q2 hb, cellB q3 hb, cellB q4 hb⟩, hC.below hb, h1, h2, h3⟩
theorem OM.step {w : World} {N0 g k : Nat} {l : List OpD} {o : OpD} (h : OM w N0 g k l) (hN : N0 ≤ g) (ho : l[k]? = some o) (ca : Addr) (cc : Nat) (hC : CAt w (some ca) o.cases) (hg : g + 1 ≤ ca.block) : OM (w.setCell ⟨g, k * 5 + 3, none⟩ (.slice (some ca) o.cases.length cc)) N0 g (k + 1) l := by
  have KG := (De.KB.refl g w).setCell (k * 5 + 3) (.slice (some ca) o.cases.length cc)
  have far : ∀ i v, i ≠ k * 5 + 3 → w.cell? ⟨g, i, none⟩ = some v → (w.setCell ⟨g, k * 5 + 3, none⟩ (.slice (some ca) o.cases.length cc)).cell? ⟨g, i, none⟩ = some v := fun i v hi hv => by
    exact (World.cell?_setCell_other w ⟨g, k * 5 + 3, none⟩ ⟨g, i, none⟩ _ (by intro e; injection e; omega)).trans hv
  intro t x ht
  obtain ⟨ca', cc', ⟨q0, q1, q2, q3, q4⟩, hC', h1, h2, h3⟩ := h t x ht
  by_cases e : t = k
  · subst e
    rw [ho] at ht
    cases ht
    exact ⟨some ca, cc, ⟨far _ _ (by omega) q0, far _ _ (by omega) q1, far _ _ (by omega) q2, World.cell?_setCell_same _ _ _ q3, far _ _ (by omega) q4⟩, cat_kb KG hC (fun a e => by cases e; omega), fun _ a e => by cases e; exact hg, fun hlt => absurd (Nat.lt_succ_self _) hlt, h3⟩
  · refine ⟨ca', cc', ⟨far _ _ (by omega) q0, far _ _ (by omega) q1, far _ _ (by omega) q2, far _ _ (by omega) q3, far _ _ (by omega) q4⟩, cat_kb' KG hC' ?_, fun hlt => h1 (by omega), fun hlt => h2 (by omega), h3⟩
    intro a ea hne
    by_cases ht2 : t < k
    · have := h1 ht2 a ea; omega
    · have := h2 ht2 a ea hne; omega
theorem OM.done {w : World} {N0 g k : Nat} {l : List OpD} (h : OM w N0 g k l) (hk : l.length ≤ k) : OF w (g + 1) g l := by
  intro t o ht
  obtain ⟨ca, cc, hq, hC, h1, _, h3⟩ := h t o ht
  have htl := (List.getElem?_eq_some_iff.1 ht).1
  exact ⟨ca, cc, hq, hC, h1 (by omega), h3⟩

/-- programs being copied: the first k are, of the others the row still has the old ones -/
def PM (w0 w : World) (N k : Nat) (arr : Array Value) (ps : List (List OpD)) : Prop :=
  PF w N arr (ps.take k) ∧ ∀ (t : Nat) (q : List OpD), k ≤ t → ps[t]? = some q → ∃ pa pc, arr[t]? = some (.slice pa q.length pc) ∧ OAt w0 pa q
theorem PF.below {w w' : World} {N : Nat} {arr : Array Value} {ps : List (List OpD)} (h : PF w N arr ps) (hb : Below w.heap.size w w') (hN : 0 < N) : PF w' N arr ps := h.kb (De.KB.of (R := 0) hb) hN
theorem PM.start {w wr : World} {oa : Option Addr} {ps : List (List OpD)} {cs : List Value} (hP : PAt w oa ps) (hb : Below w.heap.size w wr) (hl : cs.length = ps.length) (hA : CsAt wr oa cs) (W : World) (N : Nat) : PM w W N 0 cs.toArray ps := by
  refine ⟨fun t q ht => by simp at ht, fun t q _ ht => ?_⟩
  obtain ⟨b, off, pa, pc, rfl, h0, h1, _⟩ := hP t q ht
  have htl := (List.getElem?_eq_some_iff.1 ht).1
  exact ⟨pa, pc, by rw [List.getElem?_toArray]; exact cs_get hA (by omega) (cellB h0 hb), h1⟩
theorem PM.step {w0 w : World} {N k : Nat} {arr : Array Value} {ps : List (List OpD)} {q : List OpD} (h : PM w0 w N k arr ps) (hq : ps[k]? = some q) (hs : k < arr.size) (g c : Nat) (hof : OF w (g + 1) g q) (hN : N ≤ g) (hl : q.length ≤ 1000) : PM w0 w N (k + 1) (arr.setIfInBounds k (.slice (some ⟨g, 0, none⟩) q.length c)) ps := by
  have hk := (List.getElem?_eq_some_iff.1 hq).1
  refine ⟨?_, fun t x ht hx => ?_⟩
  · rw [List.take_add_one, hq]
    exact h.1.store k (by rw [List.length_take]; omega) hs g c q hof hN hl
  · obtain ⟨pa, pc, h1, h2⟩ := h.2 t x (by omega) hx
    exact ⟨pa, pc, by rw [Array.getElem?_setIfInBounds_ne (by omega)]; exact h1, h2⟩
theorem PM.below {w0 w w' : World} {N k : Nat} {arr : Array Value} {ps : List (List OpD)} (h : PM w0 w N k arr ps) (hb : Below w.heap.size w w') (hN : 0 < N) : PM w0 w' N k arr ps := ⟨h.1.below hb hN, h.2⟩
theorem PM.kb {w0 w w' : World} {N k R : Nat} {arr : Array Value} {ps : List (List OpD)} (h : PM w0 w N k arr ps) (hk : De.KB R w w') (hR : R < N) : PM w0 w' N k arr ps := ⟨h.1.kb hk hR, h.2⟩
theorem PF.mono {w : World} {N N' : Nat} {arr : Array Value} {ps : List (List OpD)} (h : PF w N arr ps) (hN : N' ≤ N) : PF w N' arr ps := by
  intro t q ht
  obtain ⟨g, c, h1, h2, h3, h4⟩ := h t q ht
  exact ⟨g, c, h1, h2, by omega, h4⟩
/-- what Copy keeps: the script boxed at P, the answer's room behind it, the programs at G -/
structure CC (w wr : World) (G : Nat) (v0 v1 v2 v3 v4 : Value) (arr : Array Value) (n : Nat) : Prop where
  bx : wr.heap[w.heap.size]? = some (.cells #[v0, v1, v2, v3, v4] 54 (0, 0))
  zr : wr.heap[w.heap.size + 1]? = some (.cells #[.int .i64 0, .int .i64 0, .slice none 0 0, .slice none 0 0, .slice none 0 0] 54 (0, 0))
  pr : wr.heap[G]? = some (.cells arr 50 (0, 0))
  sz : arr.size = n
  bel : Below w.heap.size w wr
  ne : w.heap.size + 1 < G
theorem CC.below {w wr wr' : World} {G : Nat} {v0 v1 v2 v3 v4 : Value} {arr : Array Value} {n : Nat} (h : CC w wr G v0 v1 v2 v3 v4 arr n) (hb : Below wr.heap.size wr wr') : CC w wr' G v0 v1 v2 v3 v4 arr n :=
  ⟨heap_below h.bx hb, heap_below h.zr hb, heap_below h.pr hb, h.sz, btr h.bel hb, h.ne⟩
theorem CC.other {w wr wr' : World} {G R : Nat} {v0 v1 v2 v3 v4 : Value} {arr : Array Value} {n : Nat} (h : CC w wr G v0 v1 v2 v3 v4 arr n) (k : De.KB R wr wr') (hR : G < R) : CC w wr' G v0 v1 v2 v3 v4 arr n := by
  have hn := h.ne
  exact ⟨k.heap h.bx (by omega), k.heap h.zr (by omega), k.heap h.pr (by omega), h.sz, De.KB.below h.bel k (by omega), hn⟩
theorem CC.store {w wr : World} {G : Nat} {v0 v1 v2 v3 v4 : Value} {arr : Array Value} {n : Nat} (h : CC w wr G v0 v1 v2 v3 v4 arr n) (k : Nat) (v : Value) : CC w (wr.setCell ⟨G, k, none⟩ v) G v0 v1 v2 v3 v4 (arr.setIfInBounds k v) n := by
  have hn := h.ne
  have K := (De.KB.refl G wr).setCell k v
  exact ⟨K.heap h.bx (by omega), K.heap h.zr (by omega), Ba.heap_setCell_same h.pr v, by rw [Array.size_setIfInBounds]; exact h.sz, De.KB.below h.bel K (by omega), hn⟩
theorem CC.box {w wr : World} {G : Nat} {v0 v1 v2 v3 v4 u0 u1 u2 u3 u4 : Value} {arr : Array Value} {n : Nat} (h : CC w wr G v0 v1 v2 v3 v4 arr n) (i : Nat) (v : Value) (he : (#[v0, v1, v2, v3, v4] : Array Value).setIfInBounds i v = #[u0, u1, u2, u3, u4]) : CC w (wr.setCell ⟨w.heap.size, i, none⟩ v) G u0 u1 u2 u3 u4 arr n := by
  have hn := h.ne
  have K := (De.KB.refl w.heap.size wr).setCell i v
  exact ⟨by rw [Ba.heap_setCell_same h.bx, he], K.heap h.zr (by omega), K.heap h.pr (by omega), h.sz, De.KB.below h.bel K (by omega), hn⟩
/-- what is gone through here -/
structure Small (ps : List (List OpD)) (pl dr : List Int) : Prop where
  n : ps.length ≤ 20
  q : ∀ q ∈ ps, q.length ≤ 100
  c : ∀ q ∈ ps, ∀ o ∈ q, o.cases.length ≤ 3000
  p : pl.length ≤ 1000
  d : dr.length ≤ 1000
/-- what Copy answers: the same script, in new blocks -/
def CRes (w : World) (T M : Int) (ps : List (List OpD)) (pl dr : List Int) (r : Ending) (w' : World) : Prop :=
  ∃ G L D arr, r = .returned (.agg #[.int .i64 T, .int .i64 M, .slice (some ⟨G, 0, none⟩) ps.length ps.length, .slice (some ⟨L, 0, none⟩) pl.length pl.length, .slice (some ⟨D, 0, none⟩) dr.length dr.length]) ∧ (w'.heap[G]? = some (.cells arr 50 (0, 0)) ∧ PF w' (w.heap.size + 1) arr ps ∧ w.heap.size < G) ∧ (w'.heap[L]? = some (.cells (row pl) 3 (0, 0)) ∧ G < L) ∧ w'.heap[D]? = some (.cells (row dr) 3 (0, 0)) ∧ L < D

end Sh
end Go.Proofs.YtiobcfldnfiiaaaGreat
/- slices.IndexFunc and DeleteFunc at isCompact, over this seat's program. -/
namespace Go.Proofs.YtiobcfldnfiiaaaGreat
open Go.ChangeShapes Go.WideShapes Go.ChangeAt Go.RowKit
namespace Sh
open De Ba Re

/-- a list without its Compact entries -/
def bar (l : List Int) : List Int := l.filter fun n => !(n == -1)
end Sh
end Go.Proofs.YtiobcfldnfiiaaaGreat
/- Package sheet: Bare, over this seat's program. -/
namespace Go.Proofs.YtiobcfldnfiiaaaGreat
open Go.ChangeShapes Go.WideShapes Go.ChangeAt Go.RowKit
namespace Sh
open De Ba Re

/-- what Bare answers -/
def BRes (w : World) (T M : Int) (ps : List (List OpD)) (pl dr : List Int) (r : Ending) (w' : World) : Prop :=
  ∃ G L D arr, r = .returned (.agg #[.int .i64 T, .int .i64 M, .slice (some ⟨G, 0, none⟩) ps.length ps.length, .slice (some ⟨L, 0, none⟩) (bar pl).length pl.length, .slice (some ⟨D, 0, none⟩) dr.length dr.length]) ∧ (w'.heap[G]? = some (.cells arr 50 (0, 0)) ∧ PF w' (w.heap.size + 1) arr ps ∧ w.heap.size < G) ∧ (At w' (some ⟨L, 0, none⟩) (bar pl) ∧ G < L) ∧ w'.heap[D]? = some (.cells (row dr) 3 (0, 0)) ∧ L < D
theorem row_only {pl : List Int} {i : Nat} {v : Value} (h : (row pl)[i]? = some v) : ∃ n, v = .int .i64 n := by
  rw [row, List.getElem?_toArray, List.getElem?_map] at h
  cases hx : pl[i]? with
  | none => rw [hx] at h; cases h
  | some n => rw [hx] at h; exact ⟨n, (Option.some.inj h).symm⟩
theorem OF.kb_row {w w' : World} {N g L : Nat} {l : List OpD} {pl : List Int} {t : TypeId} {fr : Nat × Nat} (h : OF w N g l) (k : De.KB L w w') (hL : w.heap[L]? = some (.cells (row pl) t fr)) : OF w' N g l := by
  intro i o hi
  obtain ⟨ca, cc, ⟨q0, q1, q2, q3, q4⟩, hC, hN, h3⟩ := h i o hi
  have hg : g ≠ L := by
    rintro rfl
    rw [cell_of hL] at q3
    obtain ⟨n, e⟩ := row_only q3
    cases e
  refine ⟨ca, cc, ⟨kb_cell k q0 hg, kb_cell k q1 hg, kb_cell k q2 hg, kb_cell k q3 hg, kb_cell k q4 hg⟩, cat_kb' k hC ?_, hN, h3⟩
  intro a e hne hb
  cases hc : o.cases with
  | nil => exact hne hc
  | cons x xs =>
    obtain ⟨b, off, e2, y0, _⟩ := hC 0 x (by rw [hc]; rfl)
    rw [e] at e2
    cases e2
    simp only at hb
    subst hb
    rw [cell_of hL] at y0
    obtain ⟨n, e⟩ := row_only y0
    cases e
theorem PF.kb_row {w w' : World} {N L : Nat} {arr : Array Value} {ps : List (List OpD)} {pl : List Int} {t : TypeId} {fr : Nat × Nat} (h : PF w N arr ps) (k : De.KB L w w') (hL : w.heap[L]? = some (.cells (row pl) t fr)) : PF w' N arr ps := by
  intro i q hi
  obtain ⟨g, c, h1, h2, h3, h4⟩ := h i q hi
  exact ⟨g, c, h1, h2.kb_row k hL, h3, h4⟩
end Sh
end Go.Proofs.YtiobcfldnfiiaaaGreat
/- The laws' own Script, over this seat's program. -/
namespace Go.Proofs.YtiobcfldnfiiaaaGreat
open Go.ChangeShapes Go.WideShapes Go.ChangeAt Go.RowKit
namespace Sh
open De Ba Re

/-- a bool that says whether p -/
def SR (p : Prop) (r : Ending) : Prop := ∃ b, r = .returned (.bool b) ∧ (b = true ↔ p)
end Sh
end Go.Proofs.YtiobcfldnfiiaaaGreat
/- The laws' own large(), over this seat's program. -/
namespace Go.Proofs.YtiobcfldnfiiaaaGreat
open Go.ChangeShapes Go.WideShapes Go.ChangeAt Go.RowKit
namespace Sh
open De Ba Re

/-- what large answers: if it is not, all is small -/
def LR (ps : List (List OpD)) (pl dr : List Int) (r : Ending) : Prop := ∃ b, r = .returned (.bool b) ∧ (b = false → Small ps pl dr)
/-- no operation holds more cases than memory has room for -/
def Held (ps : List (List OpD)) : Prop := ∀ q ∈ ps, ∀ o ∈ q, o.cases.length ≤ 140737488355328
end Sh
end Go.Proofs.YtiobcfldnfiiaaaGreat
/- Scripts, there and back (plain). -/
namespace Go.Proofs.YtiobcfldnfiiaaaGreat
open Go.ChangeShapes Go.WideShapes Go.ChangeAt Go.RowKit
namespace Sh
open De Ba Re

end Sh
end Go.Proofs.YtiobcfldnfiiaaaGreat
/- The laws' own exits(), over this seat's program. -/
namespace Go.Proofs.YtiobcfldnfiiaaaGreat
open Go.ChangeShapes Go.WideShapes Go.ChangeAt Go.RowKit
namespace Sh
open De Ba Re

def o9 : OpD := ⟨9, 0, 0, [], false⟩
def s9 : Sc := ⟨2, 9, [[o9]], [0, -1], []⟩
/-- the memory in which exits' script lies -/
def W9 (w : World) : World := (((w.alloc (.cells #[.int .i64 9, .int .i64 0, .int .i64 0, .slice none 0 0, .bool false] 49)).alloc (.cells #[.slice (some ⟨w.heap.size, 0, none⟩) 1 1] 50)).alloc (.cells #[.int .i64 0, .int .i64 (-1)] 3)).alloc (.cells #[.int .i64 2, .int .i64 9, .slice (some ⟨w.heap.size + 1, 0, none⟩) 1 1, .slice (some ⟨w.heap.size + 1 + 1, 0, none⟩) 2 2, .slice none 0 0] 54)
end Sh
end Go.Proofs.YtiobcfldnfiiaaaGreat
/- A script among a law's arguments, opened. -/
namespace Go.Proofs.YtiobcfldnfiiaaaGreat
open Go.ChangeShapes Go.WideShapes Go.ChangeAt Go.RowKit
namespace Sh
open De Ba Re

section
variable {H : Type} {enc : TypeId × Value → H} {w : World}
/-- within the form's own reach -/
def WL (t : TypeId) (d : DataW H) : Prop := ∀ m ∈ d.weights Tryz.prog t, m ≤ reachBytes
theorem WL.field {t : TypeId} {fs : Array Field} {xs : List (DataW H × List MemPlace)} {j : Nat} {f : Field} {y : DataW H × List MemPlace} (hu : Tryz.prog.underlying t = some (.struct fs)) (hf : fs[j]? = some f) (hx : xs[j]? = some y) (hz : WL t (DataW.agg (xs.map (·.1)))) : WL f.type y.1 := by
  intro m hm
  apply hz
  simp only [DataW.weights, hu]
  refine DataW.weights_mem_each (j := j) ?_ ?_ m hm
  · rw [List.getElem?_map, Array.getElem?_toList, hf]
    rfl
  · rw [List.getElem?_map, hx]
    rfl
end
end Sh
end Go.Proofs.YtiobcfldnfiiaaaGreat
/- A bare script: small, right, its own bare one; Copy and Bare by what lies in memory. -/
namespace Go.Proofs.YtiobcfldnfiiaaaGreat
open Go.ChangeShapes Go.WideShapes Go.ChangeAt Go.RowKit
namespace Sh
open De Ba Re

theorem bar_le (l : List Int) : (bar l).length ≤ l.length := List.length_filter_le ..
theorem Small.bar {ps : List (List OpD)} {pl dr : List Int} (h : Small ps pl dr) : Small ps (bar pl) dr := ⟨h.n, h.q, h.c, Nat.le_trans (bar_le pl) h.p, h.d⟩
end Sh
end Go.Proofs.YtiobcfldnfiiaaaGreat
/- Encode and Decode, by what lies in memory; a right script is small. -/
namespace Go.Proofs.YtiobcfldnfiiaaaGreat
open Go.ChangeShapes Go.WideShapes Go.ChangeAt Go.RowKit
namespace Sh
open De Ba Re

end Sh
end Go.Proofs.YtiobcfldnfiiaaaGreat
/- The reference's row and within, over this seat's program. -/
namespace Go.Proofs.YtiobcfldnfiiaaaGreat
open Go.ChangeShapes Go.WideShapes Go.ChangeAt Go.RowKit
namespace De
open Ba Re

theorem row_1 (w : World) :
    Calls Tryz.prog 116 #[.int .i64 1] w fun r w' => r = .returned (.string (bs [112, 46])) ∧ Below w.heap.size w w' := by
  show Calls Tryz.prog 116 #[.int .i64 1] w fun r w' => r = .returned (.string ⟨#[112, 46]⟩) ∧ Below w.heap.size w w'
  go_enter Tryz.func116, Tryz.ntmps116
  go_wp2
  go_ret
  exact ⟨rfl, below_alloc _ _⟩
theorem row_2 (w : World) :
    Calls Tryz.prog 116 #[.int .i64 2] w fun r w' => r = .returned (.string (bs [99, 109])) ∧ Below w.heap.size w w' := by
  show Calls Tryz.prog 116 #[.int .i64 2] w fun r w' => r = .returned (.string ⟨#[99, 109]⟩) ∧ Below w.heap.size w w'
  go_enter Tryz.func116, Tryz.ntmps116
  go_wp2
  go_ret
  exact ⟨rfl, below_alloc _ _⟩
theorem row_3 (w : World) :
    Calls Tryz.prog 116 #[.int .i64 3] w fun r w' => r = .returned (.string (bs [99, 118])) ∧ Below w.heap.size w w' := by
  show Calls Tryz.prog 116 #[.int .i64 3] w fun r w' => r = .returned (.string ⟨#[99, 118]⟩) ∧ Below w.heap.size w w'
  go_enter Tryz.func116, Tryz.ntmps116
  go_wp2
  go_ret
  exact ⟨rfl, below_alloc _ _⟩
theorem row_4 (w : World) :
    Calls Tryz.prog 116 #[.int .i64 4] w fun r w' => r = .returned (.string (bs [99, 46])) ∧ Below w.heap.size w w' := by
  show Calls Tryz.prog 116 #[.int .i64 4] w fun r w' => r = .returned (.string ⟨#[99, 46]⟩) ∧ Below w.heap.size w w'
  go_enter Tryz.func116, Tryz.ntmps116
  go_wp2
  go_ret
  exact ⟨rfl, below_alloc _ _⟩
theorem row_5 (w : World) :
    Calls Tryz.prog 116 #[.int .i64 5] w fun r w' => r = .returned (.string (bs [99, 46])) ∧ Below w.heap.size w w' := by
  show Calls Tryz.prog 116 #[.int .i64 5] w fun r w' => r = .returned (.string ⟨#[99, 46]⟩) ∧ Below w.heap.size w w'
  go_enter Tryz.func116, Tryz.ntmps116
  go_wp2
  go_ret
  exact ⟨rfl, below_alloc _ _⟩
theorem row_6 (w : World) :
    Calls Tryz.prog 116 #[.int .i64 6] w fun r w' => r = .returned (.string (bs [46, 46])) ∧ Below w.heap.size w w' := by
  show Calls Tryz.prog 116 #[.int .i64 6] w fun r w' => r = .returned (.string ⟨#[46, 46]⟩) ∧ Below w.heap.size w w'
  go_enter Tryz.func116, Tryz.ntmps116
  go_wp2
  go_ret
  exact ⟨rfl, below_alloc _ _⟩
theorem row_7 (w : World) :
    Calls Tryz.prog 116 #[.int .i64 7] w fun r w' => r = .returned (.string (bs [120, 46])) ∧ Below w.heap.size w w' := by
  show Calls Tryz.prog 116 #[.int .i64 7] w fun r w' => r = .returned (.string ⟨#[120, 46]⟩) ∧ Below w.heap.size w w'
  go_enter Tryz.func116, Tryz.ntmps116
  go_wp2
  go_ret
  exact ⟨rfl, below_alloc _ _⟩
theorem row_8 (w : World) :
    Calls Tryz.prog 116 #[.int .i64 8] w fun r w' => r = .returned (.string (bs [120, 46])) ∧ Below w.heap.size w w' := by
  show Calls Tryz.prog 116 #[.int .i64 8] w fun r w' => r = .returned (.string ⟨#[120, 46]⟩) ∧ Below w.heap.size w w'
  go_enter Tryz.func116, Tryz.ntmps116
  go_wp2
  go_ret
  exact ⟨rfl, below_alloc _ _⟩
theorem row_9 (w : World) :
    Calls Tryz.prog 116 #[.int .i64 9] w fun r w' => r = .returned (.string (bs [46, 46])) ∧ Below w.heap.size w w' := by
  show Calls Tryz.prog 116 #[.int .i64 9] w fun r w' => r = .returned (.string ⟨#[46, 46]⟩) ∧ Below w.heap.size w w'
  go_enter Tryz.func116, Tryz.ntmps116
  go_wp2
  go_ret
  exact ⟨rfl, below_alloc _ _⟩
theorem within_p (n p : Int) (w : World) :
    Calls Tryz.prog 117 #[.int .i64 n, .int .u8 112, .int .i64 p] w fun r w' => r = .returned (.bool (decide (0 ≤ n) && decide (n < p))) ∧ w' = w := by
  by_cases h1 : 0 ≤ n
  · have e : (decide (0 ≤ n) && decide (n < p)) = decide (n < p) := by simp [h1]
    rw [e]
    clear e
    go_enter Tryz.func117, Tryz.ntmps117
    go_wp2
    go_ret
    exact ⟨rfl, rfl⟩
  · have e : (decide (0 ≤ n) && decide (n < p)) = false := by simp [h1]
    rw [e]
    clear e
    go_enter Tryz.func117, Tryz.ntmps117
    go_wp2
    go_ret
    exact ⟨rfl, rfl⟩
theorem within_c (n p : Int) (w : World) :
    Calls Tryz.prog 117 #[.int .i64 n, .int .u8 99, .int .i64 p] w fun r w' => r = .returned (.bool (decide (0 ≤ n) && decide (n < 8))) ∧ w' = w := by
  by_cases h1 : 0 ≤ n
  · have e : (decide (0 ≤ n) && decide (n < 8)) = decide (n < 8) := by simp [h1]
    rw [e]
    clear e
    go_enter Tryz.func117, Tryz.ntmps117
    go_wp2
    go_ret
    exact ⟨rfl, rfl⟩
  · have e : (decide (0 ≤ n) && decide (n < 8)) = false := by simp [h1]
    rw [e]
    clear e
    go_enter Tryz.func117, Tryz.ntmps117
    go_wp2
    go_ret
    exact ⟨rfl, rfl⟩
theorem within_x (n p : Int) (w : World) :
    Calls Tryz.prog 117 #[.int .i64 n, .int .u8 120, .int .i64 p] w fun r w' => r = .returned (.bool (decide (0 ≤ n) && decide (n < 8))) ∧ w' = w := by
  by_cases h1 : 0 ≤ n
  · have e : (decide (0 ≤ n) && decide (n < 8)) = decide (n < 8) := by simp [h1]
    rw [e]
    clear e
    go_enter Tryz.func117, Tryz.ntmps117
    go_wp2
    go_ret
    exact ⟨rfl, rfl⟩
  · have e : (decide (0 ≤ n) && decide (n < 8)) = false := by simp [h1]
    rw [e]
    clear e
    go_enter Tryz.func117, Tryz.ntmps117
    go_wp2
    go_ret
    exact ⟨rfl, rfl⟩
theorem within_m (n p : Int) (w : World) :
    Calls Tryz.prog 117 #[.int .i64 n, .int .u8 109, .int .i64 p] w fun r w' => r = .returned (.bool (decide (0 ≤ n) && decide (n ≤ 4))) ∧ w' = w := by
  by_cases h1 : 0 ≤ n
  · have e : (decide (0 ≤ n) && decide (n ≤ 4)) = decide (n ≤ 4) := by simp [h1]
    rw [e]
    clear e
    go_enter Tryz.func117, Tryz.ntmps117
    go_wp2
    go_ret
    exact ⟨rfl, rfl⟩
  · have e : (decide (0 ≤ n) && decide (n ≤ 4)) = false := by simp [h1]
    rw [e]
    clear e
    go_enter Tryz.func117, Tryz.ntmps117
    go_wp2
    go_ret
    exact ⟨rfl, rfl⟩
theorem within_v (n p : Int) (w : World) :
    Calls Tryz.prog 117 #[.int .i64 n, .int .u8 118, .int .i64 p] w fun r w' => r = .returned (.bool (decide (0 ≤ n) && decide (n ≤ 99))) ∧ w' = w := by
  by_cases h1 : 0 ≤ n
  · have e : (decide (0 ≤ n) && decide (n ≤ 99)) = decide (n ≤ 99) := by simp [h1]
    rw [e]
    clear e
    go_enter Tryz.func117, Tryz.ntmps117
    go_wp2
    go_ret
    exact ⟨rfl, rfl⟩
  · have e : (decide (0 ≤ n) && decide (n ≤ 99)) = false := by simp [h1]
    rw [e]
    clear e
    go_enter Tryz.func117, Tryz.ntmps117
    go_wp2
    go_ret
    exact ⟨rfl, rfl⟩
theorem within_d (n p : Int) (w : World) :
    Calls Tryz.prog 117 #[.int .i64 n, .int .u8 46, .int .i64 p] w fun r w' => r = .returned (.bool (n == 0)) ∧ w' = w := by
  go_enter Tryz.func117, Tryz.ntmps117
  go_wp2
  go_ret
  exact ⟨rfl, rfl⟩
/-- a kind's two signs -/
def sA (k : Int) : Nat := if k = 1 then 112 else if k = 2 ∨ k = 3 ∨ k = 4 ∨ k = 5 then 99 else if k = 7 ∨ k = 8 then 120 else 46
def sB (k : Int) : Nat := if k = 2 then 109 else if k = 3 then 118 else 46
theorem row_any (k : Int) (h1 : 1 ≤ k) (h2 : k ≤ 9) (w : World) :
    Calls Tryz.prog 116 #[.int .i64 k] w fun r w' => r = .returned (.string (bs [sA k, sB k])) ∧ Below w.heap.size w w' := by
  rcases kind_cases h1 h2 with rfl | rfl | rfl | rfl | rfl | rfl | rfl | rfl | rfl
  · exact row_1 w
  · exact row_2 w
  · exact row_3 w
  · exact row_4 w
  · exact row_5 w
  · exact row_6 w
  · exact row_7 w
  · exact row_8 w
  · exact row_9 w
theorem withinA (k n p : Int) (h1 : 1 ≤ k) (h2 : k ≤ 9) (w : World) :
    Calls Tryz.prog 117 #[.int .i64 n, .int .u8 (sA k : Int), .int .i64 p] w fun r w' => r = .returned (.bool (upB n (mA k p))) ∧ w' = w := by
  rcases kind_cases h1 h2 with rfl | rfl | rfl | rfl | rfl | rfl | rfl | rfl | rfl
  · have e : upB n (mA 1 p) = (decide (0 ≤ n) && decide (n < p)) := by
      simp only [upB, mA, if_true]
      congr 1
      exact decide_eq_decide.2 (by omega)
    rw [e]
    exact within_p n p w
  · have e : upB n (mA 2 p) = (decide (0 ≤ n) && decide (n < 8)) := by
      have : mA 2 p = 7 := rfl
      simp only [upB, this]
      congr 1
      exact decide_eq_decide.2 (by omega)
    rw [e]
    exact within_c n p w
  · have e : upB n (mA 3 p) = (decide (0 ≤ n) && decide (n < 8)) := by
      have : mA 3 p = 7 := rfl
      simp only [upB, this]
      congr 1
      exact decide_eq_decide.2 (by omega)
    rw [e]
    exact within_c n p w
  · have e : upB n (mA 4 p) = (decide (0 ≤ n) && decide (n < 8)) := by
      have : mA 4 p = 7 := rfl
      simp only [upB, this]
      congr 1
      exact decide_eq_decide.2 (by omega)
    rw [e]
    exact within_c n p w
  · have e : upB n (mA 5 p) = (decide (0 ≤ n) && decide (n < 8)) := by
      have : mA 5 p = 7 := rfl
      simp only [upB, this]
      congr 1
      exact decide_eq_decide.2 (by omega)
    rw [e]
    exact within_c n p w
  · have e : upB n (mA 6 p) = (n == 0) := by
      have : mA 6 p = 0 := rfl
      rw [Bool.eq_iff_iff, upB_iff, this]
      simp
      omega
    rw [e]
    exact within_d n p w
  · have e : upB n (mA 7 p) = (decide (0 ≤ n) && decide (n < 8)) := by
      have : mA 7 p = 7 := rfl
      simp only [upB, this]
      congr 1
      exact decide_eq_decide.2 (by omega)
    rw [e]
    exact within_x n p w
  · have e : upB n (mA 8 p) = (decide (0 ≤ n) && decide (n < 8)) := by
      have : mA 8 p = 7 := rfl
      simp only [upB, this]
      congr 1
      exact decide_eq_decide.2 (by omega)
    rw [e]
    exact within_x n p w
  · have e : upB n (mA 9 p) = (n == 0) := by
      have : mA 9 p = 0 := rfl
      rw [Bool.eq_iff_iff, upB_iff, this]
      simp
      omega
    rw [e]
    exact within_d n p w
theorem withinB (k n p : Int) (h1 : 1 ≤ k) (h2 : k ≤ 9) (w : World) :
    Calls Tryz.prog 117 #[.int .i64 n, .int .u8 (sB k : Int), .int .i64 p] w fun r w' => r = .returned (.bool (upB n (mB k))) ∧ w' = w := by
  rcases kind_cases h1 h2 with rfl | rfl | rfl | rfl | rfl | rfl | rfl | rfl | rfl
  · have e : upB n (mB 1) = (n == 0) := by
      have : mB 1 = 0 := rfl
      rw [Bool.eq_iff_iff, upB_iff, this]
      simp
      omega
    rw [e]
    exact within_d n p w
  · exact within_m n p w
  · exact within_v n p w
  · have e : upB n (mB 4) = (n == 0) := by
      have : mB 4 = 0 := rfl
      rw [Bool.eq_iff_iff, upB_iff, this]
      simp
      omega
    rw [e]
    exact within_d n p w
  · have e : upB n (mB 5) = (n == 0) := by
      have : mB 5 = 0 := rfl
      rw [Bool.eq_iff_iff, upB_iff, this]
      simp
      omega
    rw [e]
    exact within_d n p w
  · have e : upB n (mB 6) = (n == 0) := by
      have : mB 6 = 0 := rfl
      rw [Bool.eq_iff_iff, upB_iff, this]
      simp
      omega
    rw [e]
    exact within_d n p w
  · have e : upB n (mB 7) = (n == 0) := by
      have : mB 7 = 0 := rfl
      rw [Bool.eq_iff_iff, upB_iff, this]
      simp
      omega
    rw [e]
    exact within_d n p w
  · have e : upB n (mB 8) = (n == 0) := by
      have : mB 8 = 0 := rfl
      rw [Bool.eq_iff_iff, upB_iff, this]
      simp
      omega
    rw [e]
    exact within_d n p w
  · have e : upB n (mB 9) = (n == 0) := by
      have : mB 9 = 0 := rfl
      rw [Bool.eq_iff_iff, upB_iff, this]
      simp
      omega
    rw [e]
    exact within_d n p w
end De
end Go.Proofs.YtiobcfldnfiiaaaGreat
/- The reference's Check, over this seat's program. -/
namespace Go.Proofs.YtiobcfldnfiiaaaGreat
open Go.ChangeShapes Go.WideShapes Go.ChangeAt Go.RowKit
namespace De
open Ba Re

theorem up7 (n : Int) : upB n 7 = (decide (0 ≤ n) && decide (n < 8)) := by
  unfold upB
  congr 1
  exact decide_eq_decide.2 (by omega)
theorem rchan (n : Int) (x : Bool) (h : upB n 7 = x) (w : World) :
    Calls Tryz.prog 117 #[.int .i64 n, .int .u8 99, .int .i64 0] w fun r w' => r = .returned (.bool x) ∧ w' = w := by
  rw [← h, up7]
  exact within_c n 0 w
theorem rval (n : Int) (x : Bool) (h : upB n 99 = x) (w : World) :
    Calls Tryz.prog 117 #[.int .i64 n, .int .u8 118, .int .i64 0] w fun r w' => r = .returned (.bool x) ∧ w' = w := by
  rw [← h]
  exact within_v n 0 w
theorem withinA_is (k n p : Int) (x : Bool) (h1 : 1 ≤ k) (h2 : k ≤ 9) (hx : upB n (mA k p) = x) (w : World) :
    Calls Tryz.prog 117 #[.int .i64 n, .int .u8 (sA k : Int), .int .i64 p] w fun r w' => r = .returned (.bool x) ∧ w' = w := by
  rw [← hx]
  exact withinA k n p h1 h2 w
theorem withinB_is (k n p : Int) (x : Bool) (h1 : 1 ≤ k) (h2 : k ≤ 9) (hx : upB n (mB k) = x) (w : World) :
    Calls Tryz.prog 117 #[.int .i64 n, .int .u8 (sB k : Int), .int .i64 p] w fun r w' => r = .returned (.bool x) ∧ w' = w := by
  rw [← hx]
  exact withinB k n p h1 h2 w
theorem sgA (k : Int) (h1 : 1 ≤ k) (h2 : k ≤ 9) : sA k < 256 ∧ sB k < 256 := by
  rcases kind_cases h1 h2 with rfl | rfl | rfl | rfl | rfl | rfl | rfl | rfl | rfl <;> decide
theorem ixA (k : Int) (h1 : 1 ≤ k) (h2 : k ≤ 9) (w : World) : (Instr.index 9 (.string (bs [sA k, sB k])) (.int .i64 0)).run Tryz.prog w = .ok (.int .u8 (sA k : Int)) w := by
  have h := sgA k h1 h2
  have := ix_str (bs [sA k, sB k]) 0 (sA k) (by rw [nbs_bs _ (by simp; omega)]; rfl) w
  exact this
theorem ixB (k : Int) (h1 : 1 ≤ k) (h2 : k ≤ 9) (w : World) : (Instr.index 9 (.string (bs [sA k, sB k])) (.int .i64 1)).run Tryz.prog w = .ok (.int .u8 (sB k : Int)) w := by
  have h := sgA k h1 h2
  have := ix_str (bs [sA k, sB k]) 1 (sB k) (by rw [nbs_bs _ (by simp; omega)]; rfl) w
  exact this

set_option maxHeartbeats 800000 in
theorem rcheck_arg (o : OpD) (oa : Option Addr) (c : Nat) (p : Int) (w : World) (h : (okP p && (decide (1 ≤ o.kind) && decide (o.kind ≤ 9))) = false) :
    Calls Tryz.prog 93 #[.agg #[.int .i64 o.kind, .int .i64 o.a, .int .i64 o.b, .slice oa o.cases.length c, .bool o.def_], .int .i64 p] w fun r w' => r = .returned (.int .i64 1) ∧ Below w.heap.size w w' := by
  obtain ⟨k, a, b, cs, d⟩ := o
  have hk : p < 1 ∨ 8 < p ∨ k < 1 ∨ 9 < k := by
    simp [okP] at h
    by_cases q1 : 1 ≤ p
    · by_cases q2 : p ≤ 8
      · by_cases q3 : 1 ≤ k
        · have := h q1 q2 q3; omega
        · omega
      · omega
    · omega
  clear h
  by_cases h1 : p < 1
  · have d1 : decide (p < 1) = true := by simpa using h1
    clear hk
    go_enter Tryz.func93, Tryz.ntmps93
    go_wp2_with fail
    go_ret
    exact ⟨rfl, below_alloc _ _⟩
  have d1 : decide (p < 1) = false := by simpa using h1
  by_cases h2 : 8 < p
  · have d2 : decide (8 < p) = true := by simpa using h2
    clear hk
    go_enter Tryz.func93, Tryz.ntmps93
    go_wp2_with fail
    go_ret
    exact ⟨rfl, below_alloc _ _⟩
  have d2 : decide (8 < p) = false := by simpa using h2
  by_cases h3 : k < 1
  · have d3 : decide (k < 1) = true := by simpa using h3
    clear hk
    go_enter Tryz.func93, Tryz.ntmps93
    go_wp2_with fail
    go_ret
    exact ⟨rfl, below_alloc _ _⟩
  have d3 : decide (k < 1) = false := by simpa using h3
  have d4 : decide (9 < k) = true := by simp; omega
  clear hk
  go_enter Tryz.func93, Tryz.ntmps93
  go_wp2_with fail
  go_ret
  exact ⟨rfl, below_alloc _ _⟩

set_option maxHeartbeats 800000 in
theorem rcheck_long (o : OpD) (oa : Option Addr) (c : Nat) (p : Int) (w : World) (hp : okP p = true) (h1 : 1 ≤ o.kind) (h2 : o.kind ≤ 9) (hl : 4 < o.cases.length) (hm : o.cases.length ≤ maxLen) :
    Calls Tryz.prog 93 #[.agg #[.int .i64 o.kind, .int .i64 o.a, .int .i64 o.b, .slice oa o.cases.length c, .bool o.def_], .int .i64 p] w fun r w' => r = .returned (.int .i64 2) ∧ Below w.heap.size w w' := by
  obtain ⟨k, a, b, cs, d⟩ := o
  unfold maxLen at hm
  obtain ⟨p1, p2⟩ := (okP_iff p).1 hp
  simp only at h1 h2 hl hm ⊢
  have e1 : decide (p < 1) = false := by simp; omega
  have e2 : decide (8 < p) = false := by simp; omega
  have d1 : decide (k < 1) = false := by simp; omega
  have d2 : decide (9 < k) = false := by simp; omega
  have d3 : decide ((4 : Int) < (cs.length : Int)) = true := by simp; omega
  clear hp
  go_enter Tryz.func93, Tryz.ntmps93
  go_wp2_with fail
  go_ret
  exact ⟨rfl, below_alloc _ _⟩
theorem op_cells {w : World} {b : Nat} {x0 x1 x2 x3 x4 : Value} {t : TypeId} {fr : Nat × Nat} (h : w.heap[b]? = some (.cells #[x0, x1, x2, x3, x4] t fr)) : w.cell? ⟨b, 0, none⟩ = some x0 ∧ w.cell? ⟨b, 1, none⟩ = some x1 ∧ w.cell? ⟨b, 2, none⟩ = some x2 ∧ w.cell? ⟨b, 3, none⟩ = some x3 ∧ w.cell? ⟨b, 4, none⟩ = some x4 := ⟨cell_of h 0, cell_of h 1, cell_of h 2, cell_of h 3, cell_of h 4⟩

set_option maxHeartbeats 1600000 in
theorem rcheck_main (o : OpD) (oa : Option Addr) (c : Nat) (p : Int) (w : World) (hp : okP p = true) (h1 : 1 ≤ o.kind) (h2 : o.kind ≤ 9) (hl : o.cases.length ≤ 4) (hA : CAt w oa o.cases) (x1 x2 x3 x4 : Bool) (hx1 : upB o.a (mA o.kind p) = x1) (hx2 : upB o.b (mB o.kind) = x2) (hx3 : (o.kind == 6) = x3) (hx4 : (o.def_ || decide (0 < o.cases.length)) = x4) :
    Calls Tryz.prog 93 #[.agg #[.int .i64 o.kind, .int .i64 o.a, .int .i64 o.b, .slice oa o.cases.length c, .bool o.def_], .int .i64 p] w fun r w' => r = .returned (.int .i64 (bif x1 && x2 && (x3 || !x4) && o.cases.all okC then 0 else 4)) ∧ Below w.heap.size w w' := by
  obtain ⟨k, a, b, cs, d⟩ := o
  simp only at h1 h2 hl hA hx1 hx2 hx3 hx4 ⊢
  obtain ⟨p1, p2⟩ := (okP_iff p).1 hp
  have HA := hide hA
  have X1 := hide hx1
  have X2 := hide hx2
  have e1 : decide (p < 1) = false := by simp; omega
  have e2 : decide (8 < p) = false := by simp; omega
  have d1 : decide (k < 1) = false := by simp; omega
  have d2 : decide (9 < k) = false := by simp; omega
  have d3 : decide ((4 : Int) < (cs.length : Int)) = false := by simp; omega
  have d4 : (k != 6) = !x3 := by rw [← hx3]; rfl
  have i0 := ixA k h1 h2
  have i1 := ixB k h1 h2
  have WA := hide (fun w => withinA_is k a p x1 h1 h2 hx1 w)
  have WB := hide (fun w => withinB_is k b p x2 h1 h2 hx2 w)
  have RW := hide (fun w => row_any k h1 h2 w)
  generalize sA k = u at WA RW i0 i1
  generalize sB k = v at WB RW i0 i1
  clear hp hA hx1 hx2 X1 X2
  cases x1
  · clear hx3 hx4 d4
    go_enter Tryz.func93, Tryz.ntmps93
    go_wp2_with fail
    refine (RW.out _).mono ?_
    rintro r w1 ⟨rfl, br⟩
    have P1 := hide (heap_below (heap_new w (.cells #[.int .i64 k, .int .i64 a, .int .i64 b, .slice oa cs.length c, .bool d] 49)) br)
    have B1 := hide (btr (below_alloc _ _) br)
    obtain ⟨y0, y1, y2, y3, y4⟩ := op_cells P1.out
    have HA1 := hide (HA.out.below B1.out)
    clear br
    go_wp2_with fail
    go_quiet ((first | (go_at_call_of 117 (Value.int IntKind.i64 a); exact Calls.quiet_of_same (WA.out _)) | (go_at_call_of 117 (Value.int IntKind.i64 b); exact Calls.quiet_of_same (WB.out _))))
    all_goals
      go_wp2_with fail
      go_ret
      exact ⟨rfl, btr B1.out (bdrew _ _)⟩
  cases x2
  · clear hx3 hx4 d4
    go_enter Tryz.func93, Tryz.ntmps93
    go_wp2_with fail
    refine (RW.out _).mono ?_
    rintro r w1 ⟨rfl, br⟩
    have P1 := hide (heap_below (heap_new w (.cells #[.int .i64 k, .int .i64 a, .int .i64 b, .slice oa cs.length c, .bool d] 49)) br)
    have B1 := hide (btr (below_alloc _ _) br)
    obtain ⟨y0, y1, y2, y3, y4⟩ := op_cells P1.out
    have HA1 := hide (HA.out.below B1.out)
    clear br
    go_wp2_with fail
    go_quiet ((first | (go_at_call_of 117 (Value.int IntKind.i64 a); exact Calls.quiet_of_same (WA.out _)) | (go_at_call_of 117 (Value.int IntKind.i64 b); exact Calls.quiet_of_same (WB.out _))))
    all_goals
      go_wp2_with fail
      go_ret
      exact ⟨rfl, btr B1.out (bdrew _ _)⟩
  go_enter Tryz.func93, Tryz.ntmps93
  go_wp2_with fail
  refine (RW.out _).mono ?_
  rintro r w1 ⟨rfl, br⟩
  have P1 := hide (heap_below (heap_new w (.cells #[.int .i64 k, .int .i64 a, .int .i64 b, .slice oa cs.length c, .bool d] 49)) br)
  have B1 := hide (btr (below_alloc _ _) br)
  obtain ⟨y0, y1, y2, y3, y4⟩ := op_cells P1.out
  have HA1 := hide (HA.out.below B1.out)
  clear br
  go_wp2_with fail
  go_quiet ((first | (go_at_call_of 117 (Value.int IntKind.i64 a); exact Calls.quiet_of_same (WA.out _)) | (go_at_call_of 117 (Value.int IntKind.i64 b); exact Calls.quiet_of_same (WB.out _))))
  cases x3
  · cases x4
    · have hd : d = false := by
        cases d
        · rfl
        · simp at hx4
      have hc0 : cs = [] := by
        rw [hd] at hx4
        simpa using hx4
      subst hd hc0
      clear hx4 hx3
      go_wp2_with fail
      refine wp_loop_rounds 1 ?_
      rw [rounds_succ]
      go_wp2
      go_ret
      exact ⟨rfl, by first | exact btr B1.out (bdrew _ _) | exact btr B1.out (by rw [World.drewN_drewN]; exact bdrew _ _) | exact B1.out⟩
    · clear hx3
      cases cs with
      | nil =>
        have hd : d = true := by simpa using hx4
        subst hd
        clear hx4
        go_wp2_with fail
        go_ret
        exact ⟨rfl, by first | exact btr B1.out (bdrew _ _) | exact btr B1.out (by rw [World.drewN_drewN]; exact bdrew _ _) | exact B1.out⟩
      | cons x t =>
        clear hx4
        go_wp2_with fail
        go_ret
        exact ⟨rfl, by first | exact btr B1.out (bdrew _ _) | exact btr B1.out (by rw [World.drewN_drewN]; exact bdrew _ _) | exact B1.out⟩
  · clear hx4 hx3
    go_wp2_with fail
    go_loopw [63] (fun i wr => ∃ j : Nat, j ≤ cs.length ∧ i = .int .i64 (j : Int) ∧ (∀ q x, q < j → cs[q]? = some x → okC x = true) ∧ Below w.heap.size w wr) (fun i _ => cs.length - (intOf i).toNat)
    case atStart => exact ⟨0, Nat.zero_le _, rfl, fun q x hq => absurd hq (Nat.not_lt_zero _), btr B1.out (bdrew _ _)⟩
    case round =>
      obtain ⟨j, hj, rfl, hall, hb⟩ := hrel
      have HK := hide hall
      have HB := hide hb
      clear hall hb
      by_cases hlt : j < cs.length
      · have hlt' : decide ((j : Int) < (cs.length : Int)) = true := by simp; omega
        obtain ⟨x, hx⟩ : ∃ x, cs[j]? = some x := ⟨cs[j], by simp [hlt]⟩
        obtain ⟨b', off, rfl, q1, q2, q3⟩ := (HA.out.below HB.out) j x hx
        have HX := hide hx
        clear hx
        obtain ⟨sd, ch, vl⟩ := x
        simp only at q1 q2 q3
        obtain ⟨u7, hu7⟩ : ∃ u, upB ch 7 = u := ⟨_, rfl⟩
        obtain ⟨u99, hu99⟩ : ∃ u, upB vl 99 = u := ⟨_, rfl⟩
        have C1 : Hid (∀ w, Calls Tryz.prog 117 #[.int .i64 ch, .int .u8 99, .int .i64 0] w fun r w' => r = .returned (.bool u7) ∧ w' = w) := fun w => rchan ch _ hu7 w
        have C2 : Hid (∀ w, Calls Tryz.prog 117 #[.int .i64 vl, .int .u8 118, .int .i64 0] w fun r w' => r = .returned (.bool u99) ∧ w' = w) := fun w => rval vl _ hu99 w
        have H7 := hide hu7
        have H99 := hide hu99
        clear hu7 hu99
        cases u7
        · have HO : Hid (okC ⟨sd, ch, vl⟩ = false) := by show _ = _; simp only [okC]; rw [H7.out]; rfl
          go_wp2_with (first | (go_at_call_of 117 (Value.int IntKind.u8 99); refine (C1.out _).mono ?_; rintro r w' ⟨rfl, rfl⟩) | (go_at_call_of 117 (Value.int IntKind.u8 118); refine (C2.out _).mono ?_; rintro r w' ⟨rfl, rfl⟩))
          all_goals
            go_ret
            exact ⟨by rw [all_no HX.out HO.out]; simp, btr HB.out (below_alloc _ _)⟩
        · cases sd
          · cases hz : vl == 0
            · have hz' : (vl != 0) = true := by simp [bne, hz]
              have HO : Hid (okC ⟨false, ch, vl⟩ = false) := by show _ = _; simp only [okC]; rw [H7.out]; simp only [cond_false, Bool.true_and]; simp at hz; simp [upB]; omega
              go_wp2_with (first | (go_at_call_of 117 (Value.int IntKind.u8 99); refine (C1.out _).mono ?_; rintro r w' ⟨rfl, rfl⟩) | (go_at_call_of 117 (Value.int IntKind.u8 118); refine (C2.out _).mono ?_; rintro r w' ⟨rfl, rfl⟩))
              all_goals
                go_ret
                exact ⟨by rw [all_no HX.out HO.out]; simp, btr HB.out (below_alloc _ _)⟩
            · have hz' : (vl != 0) = false := by simp [bne, hz]
              have HO : Hid (okC ⟨false, ch, vl⟩ = true) := by show _ = _; simp only [okC]; rw [H7.out]; simp only [cond_false, Bool.true_and]; simp at hz; simp [upB]; omega
              go_wp2_with (first | (go_at_call_of 117 (Value.int IntKind.u8 99); refine (C1.out _).mono ?_; rintro r w' ⟨rfl, rfl⟩) | (go_at_call_of 117 (Value.int IntKind.u8 118); refine (C2.out _).mono ?_; rintro r w' ⟨rfl, rfl⟩))
              all_goals
                go_roundw
                case rel => exact ⟨j + 1, by omega, by go_num, fun q y hq hy => by
                    by_cases e : q = j
                    · subst e
                      have := HX.out
                      rw [hy] at this
                      simp at this
                      subst this
                      exact HO.out
                    · exact HK.out q y (by omega) hy, btr HB.out (below_alloc _ _)⟩
                case measure => simp [intOf]; omega
          · cases u99
            · have HO : Hid (okC ⟨true, ch, vl⟩ = false) := by show _ = _; simp only [okC]; rw [H7.out]; simp only [cond_true, Bool.true_and]; exact H99.out
              go_wp2_with (first | (go_at_call_of 117 (Value.int IntKind.u8 99); refine (C1.out _).mono ?_; rintro r w' ⟨rfl, rfl⟩) | (go_at_call_of 117 (Value.int IntKind.u8 118); refine (C2.out _).mono ?_; rintro r w' ⟨rfl, rfl⟩))
              all_goals
                go_ret
                exact ⟨by rw [all_no HX.out HO.out]; simp, btr HB.out (below_alloc _ _)⟩
            · have HO : Hid (okC ⟨true, ch, vl⟩ = true) := by show _ = _; simp only [okC]; rw [H7.out]; simp only [cond_true, Bool.true_and]; exact H99.out
              go_wp2_with (first | (go_at_call_of 117 (Value.int IntKind.u8 99); refine (C1.out _).mono ?_; rintro r w' ⟨rfl, rfl⟩) | (go_at_call_of 117 (Value.int IntKind.u8 118); refine (C2.out _).mono ?_; rintro r w' ⟨rfl, rfl⟩))
              all_goals
                go_roundw
                case rel => exact ⟨j + 1, by omega, by go_num, fun q y hq hy => by
                    by_cases e : q = j
                    · subst e
                      have := HX.out
                      rw [hy] at this
                      simp at this
                      subst this
                      exact HO.out
                    · exact HK.out q y (by omega) hy, btr HB.out (below_alloc _ _)⟩
                case measure => simp [intOf]; omega
      · have hlt' : decide ((j : Int) < (cs.length : Int)) = false := by simp; omega
        go_wp2_with fail
        go_ret
        exact ⟨by rw [all_yes (fun q x hq => HK.out q x (by have := (List.getElem?_eq_some_iff.1 hq).1; omega) hq)]; rfl, HB.out⟩

theorem rcheck_any (o : OpD) (oa : Option Addr) (c : Nat) (p : Int) (w : World) (hA : CAt w oa o.cases) (hm : o.cases.length ≤ maxLen) :
    Calls Tryz.prog 93 #[.agg #[.int .i64 o.kind, .int .i64 o.a, .int .i64 o.b, .slice oa o.cases.length c, .bool o.def_], .int .i64 p] w fun r w' => r = .returned (.int .i64 (chk o p)) ∧ Below w.heap.size w w' := by
  unfold chk
  by_cases h1 : (okP p && (decide (1 ≤ o.kind) && decide (o.kind ≤ 9))) = false
  · rw [if_pos h1]
    exact rcheck_arg o oa c p w h1
  · rw [if_neg h1]
    have h1' : okP p = true ∧ 1 ≤ o.kind ∧ o.kind ≤ 9 := by simpa using h1
    obtain ⟨hp, hk1, hk2⟩ := h1'
    by_cases h2 : 4 < o.cases.length
    · rw [if_pos h2]
      exact rcheck_long o oa c p w hp hk1 hk2 h2 hm
    · rw [if_neg h2]
      refine (rcheck_main o oa c p w hp hk1 hk2 (by omega) hA _ _ _ _ rfl rfl rfl rfl).mono ?_
      rintro r w' ⟨rfl, hb⟩
      refine ⟨?_, hb⟩
      cases x1 : upB o.a (mA o.kind p) && upB o.b (mB o.kind)
      · simp
      · rw [if_neg (by simp)]
        by_cases h6 : o.kind = 6
        · rw [if_neg (fun q => q.1 h6)]
          have : (o.kind == 6) = true := by simpa using h6
          rw [this]
          cases o.cases.all okC <;> simp
        · have : (o.kind == 6) = false := by simpa using h6
          rw [this]
          cases h4 : (o.def_ || decide (0 < o.cases.length))
          · rw [if_neg (fun q => by simp at q)]
            cases o.cases.all okC <;> simp
          · rw [if_pos ⟨h6, rfl⟩]
            simp
/-- a list is answered -/
def NA (r : Ending) (w' : World) (l : List Int) : Prop := ∃ oa c, r = .returned (.slice oa l.length c) ∧ At w' oa l
end De
end Go.Proofs.YtiobcfldnfiiaaaGreat
