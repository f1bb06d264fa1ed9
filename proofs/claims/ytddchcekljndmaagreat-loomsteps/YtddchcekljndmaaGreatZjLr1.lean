import Derived.Test.YtddchcekljndmaaGreatRows
import Derived.WalkKit
import Derived.ProofKit
import Derived.OpenShut
import Derived.WalkLawsBesides
import Derived.WalkSpells
import Derived.WalkMore
import Derived.ScopeJumps
import Derived.Below
import Derived.Laws.CopyOwn
import Derived.Laws.MakeOwn
import Derived.Deep.QuietTactic
import Derived.BigQuiet
import Derived.Deep.RegionHeld
import Derived.Laws.IdiomStrings
import Derived.Deep.AppendSrc
import Derived.Deep.Slices
import Derived.ShutString
import Derived.ChangeOld
import Derived.Maps.AppendAt
import Derived.LoopN
import Derived.Deep.RegionHeld3
import Derived.Deep.AppendLies
/- What lies in memory: lists of int, rows of cells, frames. -/
namespace Go.Proofs.YtddchcekljndmaaGreat
open Go.ChangeShapes Go.WideShapes Go.ChangeAt Go.RowKit
namespace Ba

theorem hide {p : Prop} (h : p) : Hid p := h

/-- the k'th number of a list, 0 behind its end -/
def nth (l : List Int) (k : Nat) : Int := l.getD k 0
theorem nth_out (l : List Int) (k : Nat) (h : l.length ≤ k) : nth l k = 0 := by simp [nth, h]
theorem nth_lt (l : List Int) (k : Nat) (h : k < l.length) : nth l k = l[k] := by simp [nth, h]
theorem nth_take (l : List Int) (n k : Nat) (h : k < n) : nth (l.take n) k = nth l k := by simp [nth, h]
/-- the cells from oa on hold l -/
def At (w : World) (oa : Option Addr) (l : List Int) : Prop :=
  ∀ k, k < l.length → ∃ b off, oa = some ⟨b, off, none⟩ ∧ w.cell? ⟨b, off + k, none⟩ = some (.int .i64 (nth l k))
theorem At.below {w w' : World} {oa : Option Addr} {l : List Int} (h : At w oa l) (hb : Below w.heap.size w w') : At w' oa l := by
  intro k hk
  obtain ⟨b, off, he, hc⟩ := h k hk
  exact ⟨b, off, he, (hb.cell (World.block_lt_of_cell? w _ hc)).trans hc⟩
theorem At.nil (w : World) (oa : Option Addr) : At w oa [] := fun _ hk => absurd hk (Nat.not_lt_zero _)

/-- a row of the numbers l -/
def row (l : List Int) : Array Value := (l.map (Value.int .i64)).toArray
theorem row_at (l : List Int) (k : Nat) (h : k < l.length) : (row l)[k]? = some (.int .i64 (nth l k)) := by simp [row, nth, h]

theorem heap_new (w : World) (o : Obj) : (w.alloc o).heap[w.heap.size]? = some o := by
  show (w.heap.push o)[w.heap.size]? = some o
  simp
theorem setRow_new (w : World) (cur data : Array Value) (t : TypeId) : (w.alloc (.cells cur t)).setRow w.heap.size data = w.alloc (.cells data t) := by
  unfold World.setRow World.alloc
  congr 1
  apply Array.ext
  · simp
  · intro i h1 h2
    simp [Array.getElem_modify, Array.getElem_push]
    split
    · simp_all
    · have : i < w.heap.size := by simp at h1; omega
      simp [this]
theorem cell_of {w : World} {b : Nat} {cur : Array Value} {t : TypeId} {fr : Nat × Nat} (h : w.heap[b]? = some (.cells cur t fr)) (k : Nat) : w.cell? ⟨b, k, none⟩ = cur[k]? := by
  simp [World.cell?, h]
theorem frozen_of {w : World} {b : Nat} {cur : Array Value} {t : TypeId} (h : w.heap[b]? = some (.cells cur t (0, 0))) (k : Nat) : w.frozen? ⟨b, k, none⟩ = false := by
  simp [World.frozen?, h]
theorem heap_setCell_same {w : World} {b i : Nat} {cur : Array Value} {t : TypeId} {fr : Nat × Nat} (h : w.heap[b]? = some (.cells cur t fr)) (v : Value) : (w.setCell ⟨b, i, none⟩ v).heap[b]? = some (.cells (cur.setIfInBounds i v) t fr) := by
  rw [setCell_eq_setRow w b i cur t fr v h]
  exact setRow_heap w b cur _ t fr h
theorem At.new (w : World) (l : List Int) (t : TypeId) : At (w.alloc (.cells (row l) t)) (some ⟨w.heap.size, 0, none⟩) l := by
  intro k hk
  refine ⟨w.heap.size, 0, rfl, ?_⟩
  rw [Nat.zero_add, ← row_at l k hk]
  exact cell_of (heap_new _ _) k
theorem At.lit (w : World) (l : List Int) (t : TypeId) (c : Array Value) (h : c = row l) : At (w.alloc (.cells c t)) (some ⟨w.heap.size, 0, none⟩) l := by
  subst h
  exact At.new w l t

theorem btr {a b c : World} (h : Below a.heap.size a b) (k : Below b.heap.size b c) : Below a.heap.size a c := h.trans (k.mono h.size)
theorem below_alloc (w : World) (o : Obj) : Below w.heap.size w (w.alloc o) := (Below.refl _ _).alloc (Nat.le_refl _) _
theorem bdrew (w : World) (q : Nat) : Below w.heap.size w (w.drewN q) := ⟨rfl, rfl, rfl, Nat.le_refl _, fun _ _ => rfl⟩
theorem bdrew1 (w : World) : Below w.heap.size w w.drew := ⟨rfl, rfl, rfl, Nat.le_refl _, fun _ _ => rfl⟩
theorem heap_below {w w' : World} {b : Nat} {o : Obj} (h : w.heap[b]? = some o) (hb : Below w.heap.size w w') : w'.heap[b]? = some o := by
  have hl : b < w.heap.size := by
    rcases Nat.lt_or_ge b w.heap.size with q | q
    · exact q
    · rw [Array.getElem?_eq_none q] at h; cases h
  exact (hb.block b hl).trans h

theorem results_row2 {fn : Func} {p u : Tmp} {ty : TypeId} (h : fn.results = #[.cell p ty, .tmp u]) (tmps : Array Value) (w : World) (g : Nat) (cs : Array Value) (v : Value)
    (hp : tmps.getD p undef = .pointer (some ⟨g, 0, none⟩)) (hv : tmps.getD u undef = v) (hl : (loadVar ty ⟨g, 0, none⟩).run Tryz.prog w = .ok (.agg cs) w) :
    (results fn tmps).run Tryz.prog w = .ok (.tuple #[.agg cs, v]) w := by
  subst hv
  have hp' : tmps[p]?.getD undef = .pointer (some ⟨g, 0, none⟩) := by simpa using hp
  simp [results, h, hp', asAddr, hl]
theorem ret_bool {a b : Bool} (h : a = b) : Ending.returned (.bool a) = .returned (.bool b) := by rw [h]
theorem ret_int {a b : Int} (h : a = b) : Ending.returned (.int .i64 a) = .returned (.int .i64 b) := by rw [h]
end Ba
end Go.Proofs.YtddchcekljndmaaGreat
/- Package reel: a number's bytes; spell, over this seat's program. -/
namespace Go.Proofs.YtddchcekljndmaaGreat
open Go.ChangeShapes Go.WideShapes Go.ChangeAt Go.RowKit
namespace Re
open Ba

/-- the k lowest bytes of n, the highest first -/
def dg : Nat → Nat → List Nat
  | 0, _ => []
  | k + 1, n => n / 256 ^ k % 256 :: dg k n
theorem dg_length (k n : Nat) : (dg k n).length = k := by induction k with | zero => rfl | succ k ih => simp [dg, ih]
/-- how many bytes hold it -/
def nb (n : Nat) : Nat := if n < 256 then 1 else if n < 65536 then 2 else if n < 16777216 then 3 else if n < 4294967296 then 4 else if n < 1099511627776 then 5 else 6
set_option maxRecDepth 100000 in
theorem nb_is (n j : Nat) (hj : j ≤ 5) (h1 : j = 0 ∨ 256 ^ j ≤ n) (h2 : n < 256 ^ (j + 1)) : nb n = j + 1 := by
  have p1 : 256 ^ 1 = 256 := rfl
  have p2 : 256 ^ (1 + 1) = 65536 := rfl
  have p3 : 256 ^ (2 + 1) = 16777216 := rfl
  have p4 : 256 ^ (3 + 1) = 4294967296 := rfl
  have p5 : 256 ^ (4 + 1) = 1099511627776 := rfl
  unfold nb
  match j, hj with
  | 0, _ => rw [Nat.zero_add, p1] at h2; rw [if_pos h2]
  | 1, _ => rw [p2] at h2; rw [p1] at h1; rw [if_neg (by omega), if_pos h2]
  | 2, _ => rw [p3] at h2; rw [show 256 ^ 2 = 65536 from rfl] at h1; rw [if_neg (by omega), if_neg (by omega), if_pos h2]
  | 3, _ => rw [p4] at h2; rw [show 256 ^ 3 = 16777216 from rfl] at h1; rw [if_neg (by omega), if_neg (by omega), if_neg (by omega), if_pos h2]
  | 4, _ => rw [p5] at h2; rw [show 256 ^ 4 = 4294967296 from rfl] at h1; rw [if_neg (by omega), if_neg (by omega), if_neg (by omega), if_neg (by omega), if_pos h2]
  | 5, _ => rw [show 256 ^ 5 = 1099511627776 from rfl] at h1; rw [if_neg (by omega), if_neg (by omega), if_neg (by omega), if_neg (by omega), if_neg (by omega)]
theorem nb_le (n : Nat) : nb n ≤ 6 := by unfold nb; repeat' split
                                         all_goals omega
theorem nb_pos (n : Nat) : 1 ≤ nb n := by unfold nb; repeat' split
                                          all_goals omega
/-- a number's bytes -/
def spl (n : Nat) : List Nat := bif decide (n < 240) then [n] else (240 + nb n) :: dg (nb n) n
theorem spl_lo (n : Nat) (h : n < 240) : spl n = [n] := by simp [spl, h]
theorem spl_hi (n : Nat) (h : 240 ≤ n) : spl n = (240 + nb n) :: dg (nb n) n := by
  have : ¬ n < 240 := by omega
  simp [spl, this]

/-- seven bytes, L at their end -/
def rm (L : List Nat) : Array Value := (List.replicate (7 - L.length) (Value.int .u8 0) ++ L.map fun b : Nat => Value.int .u8 (b : Int)).toArray
/-- behind the last byte: the one ahead of them, if there are several, and the answer -/
theorem last (n j : Nat) (hj : j ≤ 5) (h1 : j = 0 ∨ 256 ^ j ≤ n) (h2 : n < 256 ^ (j + 1)) : (240 ≤ n → spl n = (240 + (j + 1)) :: dg (j + 1) n) ∧ (n < 240 → spl n = dg (j + 1) n) := by
  have e := nb_is n j hj h1 h2
  refine ⟨fun h => by rw [spl_hi n h, e], fun h => ?_⟩
  have j0 : j = 0 := by
    rcases h1 with h1 | h1
    · exact h1
    · by_cases q : j = 0
      · exact q
      · have : 256 ^ 1 ≤ 256 ^ j := Nat.pow_le_pow_right (by decide) (by omega)
        omega
  subst j0
  rw [spl_lo n h]
  simp [dg]
  omega

end Re
end Go.Proofs.YtddchcekljndmaaGreat
/- Package reel: Put and Size, over this seat's program. -/
namespace Go.Proofs.YtddchcekljndmaaGreat
open Go.ChangeShapes Go.WideShapes Go.ChangeAt Go.RowKit
namespace Re
open Ba

/-- bytes as a string -/
def bs (L : List Nat) : ByteArray := ⟨(L.map fun b => UInt8.ofNat b).toArray⟩
def okR (n : Int) : Bool := decide (0 ≤ n) && decide (n ≤ 1099511627776)
theorem okR_iff (n : Int) : okR n = true ↔ 0 ≤ n ∧ n ≤ 1099511627776 := by simp [okR]

end Re
end Go.Proofs.YtddchcekljndmaaGreat
/- The reference's Put, over this seat's program. -/
namespace Go.Proofs.YtddchcekljndmaaGreat
open Go.ChangeShapes Go.WideShapes Go.ChangeAt Go.RowKit
namespace Re
open Ba

end Re
end Go.Proofs.YtddchcekljndmaaGreat
/- Package reel: Take, over this seat's program. -/
namespace Go.Proofs.YtddchcekljndmaaGreat
open Go.ChangeShapes Go.WideShapes Go.ChangeAt Go.RowKit
namespace Re
open Ba

/-- bytes as numbers -/
def nbs (s : ByteArray) : List Nat := s.data.toList.map UInt8.toNat
/-- the number of bytes, the highest first -/
def vl (L : List Nat) : Nat := L.foldl (fun a b => 256 * a + b) 0
def szn (n : Nat) : Nat := if n ≤ 1099511627776 then (spl n).length else 0
/-- the number with which bytes begin, and how many are its own -/
def tk : List Nat → Option (Nat × Nat)
  | [] => none
  | b :: t => if b < 240 then some (b, 1) else
      if 1 ≤ b - 240 ∧ b - 240 ≤ 6 ∧ b - 240 ≤ t.length ∧ szn (vl (t.take (b - 240))) = 1 + (b - 240) then some (vl (t.take (b - 240)), 1 + (b - 240)) else none

/-- the k'th byte of a string -/
theorem ix_str (s : ByteArray) (k b : Nat) (hk : (nbs s)[k]? = some b) (w : World) : (Instr.index 9 (.string s) (.int .i64 (k : Int))).run Tryz.prog w = .ok (.int .u8 (b : Int)) w := by
  have hl : k < s.size := by
    have := (List.getElem?_eq_some_iff.1 hk).1
    simpa [nbs] using this
  rw [run_index_string (P := Tryz.prog) w 9 s .i64 (k : Int) Tryz.underlying9, dif_pos ⟨by omega, by omega⟩]
  have e : s[k].toNat = b := by
    have := (List.getElem?_eq_some_iff.1 hk).2
    simp [nbs] at this
    exact this
  rw [← e]
  rfl
end Re
end Go.Proofs.YtddchcekljndmaaGreat
/- Package reel: Take of more bytes, over this seat's program. -/
namespace Go.Proofs.YtddchcekljndmaaGreat
open Go.ChangeShapes Go.WideShapes Go.ChangeAt Go.RowKit
namespace Re
open Ba

theorem nbs_length (s : ByteArray) : (nbs s).length = s.size := by
  show (s.data.toList.map _).length = s.data.size
  simp
theorem nbs_extract (s : ByteArray) (a b : Nat) : nbs (s.extract a b) = ((nbs s).take b).drop a := by
  simp [nbs, ByteArray.data_extract, Array.toList_extract, List.map_take, List.map_drop, List.drop_take]
theorem nbs_bs (L : List Nat) (h : ∀ b ∈ L, b < 256) : nbs (bs L) = L := by
  have e : L.map (UInt8.toNat ∘ fun b => UInt8.ofNat b) = L.map id := List.map_congr_left fun b hb => by
    have := h b hb
    simp
    omega
  simpa [nbs, bs] using e
theorem szn_lo (n : Nat) (h : n ≤ 1099511627776) : szn n = (spl n).length := by simp [szn, h]
end Re
end Go.Proofs.YtddchcekljndmaaGreat
/- The reference's Take, over this seat's program. -/
namespace Go.Proofs.YtddchcekljndmaaGreat
open Go.ChangeShapes Go.WideShapes Go.ChangeAt Go.RowKit
namespace Re
open Ba

end Re
end Go.Proofs.YtddchcekljndmaaGreat
/- From world to world, but for one block; a list in memory below a block. -/
namespace Go.Proofs.YtddchcekljndmaaGreat
open Go.ChangeShapes Go.WideShapes Go.ChangeAt Go.RowKit
namespace Ba

theorem heap_lt {w : World} {b : Nat} {o : Obj} (h : w.heap[b]? = some o) : b < w.heap.size := by
  rcases Nat.lt_or_ge b w.heap.size with q | q
  · exact q
  · rw [Array.getElem?_eq_none q] at h; cases h

/-- from w to w' at most block R has changed, of those that were there -/
structure KB (R : Nat) (w w' : World) : Prop where
  os : w'.os = w.os
  tape : w'.tape = w.tape
  output : w'.output = w.output
  size : w.heap.size ≤ w'.heap.size
  block : ∀ k, k < w.heap.size → k ≠ R → w'.heap[k]? = w.heap[k]?
theorem KB.refl (R : Nat) (w : World) : KB R w w := ⟨rfl, rfl, rfl, Nat.le_refl _, fun _ _ _ => rfl⟩
theorem KB.trans {R : Nat} {a b c : World} (h : KB R a b) (k : KB R b c) : KB R a c :=
  ⟨k.os.trans h.os, k.tape.trans h.tape, k.output.trans h.output, Nat.le_trans h.size k.size, fun x hx hr => (k.block x (Nat.lt_of_lt_of_le hx h.size) hr).trans (h.block x hx hr)⟩
theorem KB.of {R : Nat} {a b : World} (h : Below a.heap.size a b) : KB R a b := ⟨h.os, h.tape, h.output, h.size, fun x hx _ => h.block x hx⟩
theorem KB.setCell {R : Nat} {a b : World} (h : KB R a b) (i : Nat) (v : Value) : KB R a (b.setCell ⟨R, i, none⟩ v) :=
  ⟨h.os, h.tape, h.output, by show _ ≤ (b.setCell _ _).heap.size; simp [World.setCell]; exact h.size, fun x hx hr => (Below.heap_setCell _ _ _ _ hr).trans (h.block x hx hr)⟩
theorem KB.below {R : Nat} {w a b : World} (h : Below w.heap.size w a) (k : KB R a b) (hR : w.heap.size ≤ R) : Below w.heap.size w b :=
  ⟨k.os.trans h.os, k.tape.trans h.tape, k.output.trans h.output, Nat.le_trans h.size k.size, fun x hx => (k.block x (Nat.lt_of_lt_of_le hx h.size) (by omega)).trans (h.block x hx)⟩
theorem KB.heap {R b : Nat} {w w' : World} {o : Obj} (k : KB R w w') (h : w.heap[b]? = some o) (hb : b ≠ R) : w'.heap[b]? = some o :=
  (k.block b (heap_lt h) hb).trans h
theorem KB.cell {R b i : Nat} {w w' : World} {v : Value} (k : KB R w w') (h : w.cell? ⟨b, i, none⟩ = some v) (hb : b ≠ R) : w'.cell? ⟨b, i, none⟩ = some v := by
  have := k.block b (World.block_lt_of_cell? w _ h) hb
  rw [← h]
  simp only [World.cell?, this]
theorem KB.at {R : Nat} {w w' : World} {oa : Option Addr} {l : List Int} (k : KB R w w') (h : At w oa l) (hb : ∀ a, oa = some a → a.block ≠ R) : At w' oa l := by
  intro j hj
  obtain ⟨b, off, rfl, hc⟩ := h j hj
  exact ⟨b, off, rfl, k.cell hc (hb _ rfl)⟩
theorem KB.at' {R : Nat} {w w' : World} {oa : Option Addr} {l : List Int} (k : KB R w w') (h : At w oa l) (hb : 0 < l.length → ∀ a, oa = some a → a.block ≠ R) : At w' oa l := by
  intro j hj
  obtain ⟨b, off, rfl, hc⟩ := h j hj
  exact ⟨b, off, rfl, k.cell hc (hb (by omega) _ rfl)⟩
theorem At.lt {w : World} {oa : Option Addr} {l : List Int} (h : At w oa l) (h0 : 0 < l.length) (a : Addr) (e : oa = some a) : a.block < w.heap.size := by
  obtain ⟨b, off, rfl, hc⟩ := h 0 h0
  cases e
  exact World.block_lt_of_cell? w _ hc
theorem At.tail {w : World} {b off : Nat} {x : Int} {l : List Int} (h : At w (some ⟨b, off, none⟩) (x :: l)) : At w (some ⟨b, off + 1, none⟩) l := by
  intro k hk
  obtain ⟨b', off', he, hc⟩ := h (k + 1) (by simp; omega)
  simp only [Option.some.injEq, Addr.mk.injEq] at he
  obtain ⟨rfl, rfl, _⟩ := he
  refine ⟨b, off + 1, rfl, ?_⟩
  rw [show off + 1 + k = off + (k + 1) by omega, hc]
  rfl
theorem At.head {w : World} {oa : Option Addr} {x : Int} {l : List Int} (h : At w oa (x :: l)) : ∃ b off, oa = some ⟨b, off, none⟩ ∧ w.cell? ⟨b, off, none⟩ = some (.int .i64 x) := by
  obtain ⟨b, off, rfl, hc⟩ := h 0 (by simp)
  exact ⟨b, off, rfl, hc⟩
end Ba
end Go.Proofs.YtddchcekljndmaaGreat
/- A list of records of integers among a law's arguments, opened. -/
namespace Go.Proofs.YtddchcekljndmaaGreat
open Go.ChangeShapes Go.WideShapes Go.ChangeAt Go.RowKit
namespace Ba

/-- the cells from oa on hold the records l, of m numbers each -/
def RAt (w : World) (oa : Option Addr) (m : Nat) (l : List (List Int)) : Prop :=
  ∀ k x, l[k]? = some x → ∃ b off, oa = some ⟨b, off, none⟩ ∧ ∀ j, j < m → w.cell? ⟨b, off + k * m + j, none⟩ = some (.int .i64 (nth x j))
theorem RAt.nil (w : World) (oa : Option Addr) (m : Nat) : RAt w oa m [] := fun _ _ h => by simp at h
theorem RAt.below {w w' : World} {oa : Option Addr} {m : Nat} {l : List (List Int)} (h : RAt w oa m l) (hb : Below w.heap.size w w') : RAt w' oa m l := by
  intro k x hk
  obtain ⟨b, off, he, hc⟩ := h k x hk
  exact ⟨b, off, he, fun j hj => (hb.cell (World.block_lt_of_cell? w _ (hc j hj))).trans (hc j hj)⟩
theorem RAt.kb {w w' : World} {R : Nat} {oa : Option Addr} {m : Nat} {l : List (List Int)} (h : RAt w oa m l) (k : KB R w w') (hb : ∀ a, oa = some a → a.block ≠ R) : RAt w' oa m l := by
  intro i x hi
  obtain ⟨b, off, rfl, hc⟩ := h i x hi
  exact ⟨b, off, rfl, fun j hj => k.cell (hc j hj) (hb _ rfl)⟩
/-- below G nothing has changed, and no block of another type than e but G -/
def FT (G : Nat) (e : TypeId) (w w' : World) : Prop := Below G w w' ∧ ∀ k c t fr, w.heap[k]? = some (.cells c t fr) → t ≠ e → k ≠ G → w'.heap[k]? = some (.cells c t fr)
theorem FT.refl (P : Nat) (e : TypeId) (w : World) : FT P e w w := ⟨Below.refl _ _, fun _ _ _ _ h _ _ => h⟩
theorem FT.trans {P : Nat} {e : TypeId} {a b c : World} (h : FT P e a b) (k : FT P e b c) : FT P e a c :=
  ⟨h.1.trans k.1, fun x cc t fr hx ht hP => k.2 x cc t fr (h.2 x cc t fr hx ht hP) ht hP⟩
theorem FT.of {P : Nat} {e : TypeId} {a b : World} (h : Below a.heap.size a b) (hP : P ≤ a.heap.size) : FT P e a b :=
  ⟨h.mono hP, fun _ _ _ _ hx _ _ => heap_below hx h⟩
theorem FT.setNew {P : Nat} {e : TypeId} {a b : World} {z : Nat} (h : FT P e a b) (hz : a.heap.size ≤ z) (hP : P ≤ z) (i : Nat) (v : Value) : FT P e a (b.setCell ⟨z, i, none⟩ v) :=
  ⟨h.1.setCell hP _, fun x cc t fr hx ht hPx => (Below.heap_setCell _ _ _ _ (by have := heap_lt hx; show x ≠ z; omega)).trans (h.2 x cc t fr hx ht hPx)⟩
theorem FT.alloc {P : Nat} {e : TypeId} {a b : World} (h : FT P e a b) (hP : P ≤ b.heap.size) (o : Obj) : FT P e a (b.alloc o) := h.trans (FT.of (below_alloc _ _) hP)
theorem own_below {w w' : World} {base : Nat} {e : TypeId} {size : Nat} {v : Value} {n : Nat} {xs : List Value} (h : w.ownsRow base e size v n xs) (hb : Below w.heap.size w w') : w'.ownsRow base e size v n xs := by
  refine ⟨h.1, ?_⟩
  rcases h.2 with q | ⟨g, cap, cur, q1, q2, q3, q4⟩
  · exact .inl q
  · exact .inr ⟨g, cap, cur, q1, q2, heap_below q3 hb, q4⟩
theorem own_ty {w : World} {base size : Nat} {e : TypeId} {v : Value} {n g : Nat} {xs : List Value} {c : Array Value} {t : TypeId} {fr : Nat × Nat} (h : w.ownsRow base e size v n xs) (hg : w.heap[g]? = some (.cells c t fr)) (ht : t ≠ e) : some g ≠ v.ownBlock := by
  intro q
  rcases h.2 with ⟨rfl, _⟩ | ⟨b, cap, cur, rfl, _, hb, _⟩
  · simp [Value.ownBlock] at q
  · simp [Value.ownBlock] at q
    subst q
    rw [hg] at hb
    simp at hb
    exact ht hb.2.1
theorem one_of {cs : List Value} {j : Nat} {v : Value} (h : (cs.drop j).take 1 = [v]) : cs[j]? = some v := by
  have : ((cs.drop j).take 1)[0]? = some v := by rw [h]; rfl
  simpa using this
theorem cells_int : Tryz.prog.cellsOf 3 = 1 := by kernel_rfl

section
variable {H : Type} {enc : TypeId × Value → H} {w : World}
end
end Ba
end Go.Proofs.YtddchcekljndmaaGreat
/- Frames by footprint: what has changed lies in a set of blocks. -/
namespace Go.Proofs.YtddchcekljndmaaGreat
open Go.ChangeShapes Go.WideShapes Go.ChangeAt Go.RowKit
namespace Ba

/-- from w to w' nothing has changed outside F, of what was there -/
structure KF (F : Nat → Prop) (w w' : World) : Prop where
  os : w'.os = w.os
  tape : w'.tape = w.tape
  output : w'.output = w.output
  size : w.heap.size ≤ w'.heap.size
  block : ∀ k, k < w.heap.size → ¬ F k → w'.heap[k]? = w.heap[k]?
/-- F' is F, and what is new since w -/
def Nw (F' F : Nat → Prop) (w : World) : Prop := ∀ k, F' k → F k ∨ w.heap.size ≤ k
/-- the blocks of F are as they were -/
def Sm (F : Nat → Prop) (w w' : World) : Prop := ∀ k, F k → w'.heap[k]? = w.heap[k]?
/-- the blocks of F are there -/
def Bd (F : Nat → Prop) (w : World) : Prop := ∀ k, F k → k < w.heap.size
theorem Nw.refl (F : Nat → Prop) (w : World) : Nw F F w := fun _ h => .inl h
theorem Nw.trans {F G H : Nat → Prop} {a b : World} (h : Nw G F a) (k : Nw H G b) (hs : a.heap.size ≤ b.heap.size) : Nw H F a := by
  intro x hx
  rcases k x hx with q | q
  · exact h x q
  · exact .inr (by omega)
theorem KF.refl (F : Nat → Prop) (w : World) : KF F w w := ⟨rfl, rfl, rfl, Nat.le_refl _, fun _ _ _ => rfl⟩
theorem KF.trans {F G : Nat → Prop} {a b c : World} (h : KF F a b) (k : KF G b c) (i : Nw G F a) : KF F a c :=
  ⟨k.os.trans h.os, k.tape.trans h.tape, k.output.trans h.output, Nat.le_trans h.size k.size, fun x hx hr => (k.block x (Nat.lt_of_lt_of_le hx h.size) (fun e => by
    rcases i x e with q | q
    · exact hr q
    · omega)).trans (h.block x hx hr)⟩
theorem KF.of {F : Nat → Prop} {a b : World} (h : Below a.heap.size a b) : KF F a b := ⟨h.os, h.tape, h.output, h.size, fun x hx _ => h.block x hx⟩
theorem KF.then {F : Nat → Prop} {a b c : World} (h : KF F a b) (k : Below b.heap.size b c) : KF F a c := h.trans (KF.of (F := F) k) (Nw.refl _ _)
theorem KF.mono {F G : Nat → Prop} {a b : World} (h : KF F a b) (i : ∀ k, F k → G k) : KF G a b := ⟨h.os, h.tape, h.output, h.size, fun x hx hr => h.block x hx fun e => hr (i x e)⟩
theorem KF.kb {F : Nat → Prop} {R : Nat} {a b : World} (h : KB R a b) (hR : F R) : KF F a b := ⟨h.os, h.tape, h.output, h.size, fun x hx hr => h.block x hx fun e => hr (by rw [e]; exact hR)⟩
theorem KF.set {F : Nat → Prop} {a b : World} {q : Nat} (h : KF F a b) (hq : F q) (i : Nat) (v : Value) : KF F a (b.setCell ⟨q, i, none⟩ v) :=
  ⟨h.os, h.tape, h.output, by show _ ≤ (b.setCell _ _).heap.size; simp [World.setCell]; exact h.size, fun x hx hr => (Below.heap_setCell _ _ _ _ (fun e => hr (by have e' : x = q := e; rw [e']; exact hq))).trans (h.block x hx hr)⟩
theorem KF.setNew {F : Nat → Prop} {a b : World} {z : Nat} (h : KF F a b) (hz : a.heap.size ≤ z) (i : Nat) (v : Value) : KF F a (b.setCell ⟨z, i, none⟩ v) :=
  ⟨h.os, h.tape, h.output, by show _ ≤ (b.setCell _ _).heap.size; simp [World.setCell]; exact h.size, fun x hx hr => (Below.heap_setCell _ _ _ _ (by show x ≠ z; omega)).trans (h.block x hx hr)⟩
theorem KF.alloc {F : Nat → Prop} {a b : World} (h : KF F a b) (o : Obj) : KF F a (b.alloc o) := h.then (below_alloc _ _)
theorem KF.below {F : Nat → Prop} {w a b : World} (h : Below w.heap.size w a) (k : KF F a b) (hF : ∀ x, F x → w.heap.size ≤ x) : Below w.heap.size w b :=
  ⟨k.os.trans h.os, k.tape.trans h.tape, k.output.trans h.output, Nat.le_trans h.size k.size, fun x hx => (k.block x (Nat.lt_of_lt_of_le hx h.size) (fun e => by have := hF x e; omega)).trans (h.block x hx)⟩
theorem KF.heap {F : Nat → Prop} {b : Nat} {w w' : World} {o : Obj} (k : KF F w w') (h : w.heap[b]? = some o) (hb : ¬ F b) : w'.heap[b]? = some o :=
  (k.block b (heap_lt h) hb).trans h
theorem KF.cell {F : Nat → Prop} {b i : Nat} {w w' : World} {v : Value} (k : KF F w w') (h : w.cell? ⟨b, i, none⟩ = some v) (hb : ¬ F b) : w'.cell? ⟨b, i, none⟩ = some v := by
  have := k.block b (World.block_lt_of_cell? w _ h) hb
  rw [← h]
  simp only [World.cell?, this]
theorem Sm.kf {F G : Nat → Prop} {a b : World} (k : KF G a b) (hF : Bd F a) (hd : ∀ x, F x → ¬ G x) : Sm F a b := fun x hx => k.block x (hF x hx) (hd x hx)
theorem Sm.below {F : Nat → Prop} {a b : World} (k : Below a.heap.size a b) (hF : Bd F a) : Sm F a b := fun x hx => k.block x (hF x hx)
theorem Sm.heap {F : Nat → Prop} {a b : World} (h : Sm F a b) {x : Nat} {o : Obj} (hx : F x) (ho : a.heap[x]? = some o) : b.heap[x]? = some o := (h x hx).trans ho
theorem Sm.sub {F G : Nat → Prop} {a b : World} (h : Sm F a b) (i : ∀ x, G x → F x) : Sm G a b := fun x hx => h x (i x hx)
theorem Bd.sm {F : Nat → Prop} {a b : World} (h : Bd F a) (s : Sm F a b) : Bd F b := by
  intro x hx
  have h1 := h x hx
  have h2 := s x hx
  rw [Array.getElem?_eq_getElem h1] at h2
  exact heap_lt h2
theorem Bd.mono {F : Nat → Prop} {a b : World} (h : Bd F a) (s : a.heap.size ≤ b.heap.size) : Bd F b := fun x hx => Nat.lt_of_lt_of_le (h x hx) s
/-- what F' and F have of another one's: nothing -/
theorem Nw.apart {F' F G : Nat → Prop} {a : World} (h : Nw F' F a) (hG : Bd G a) (hd : ∀ x, G x → ¬ F x) : ∀ x, G x → ¬ F' x := by
  intro x hx hf
  rcases h x hf with q | q
  · exact hd x hx q
  · have := hG x hx
    omega
end Ba
end Go.Proofs.YtddchcekljndmaaGreat
/- Package entry: events; Bare, isSelect, values, mates, has, fields, flagsFit, over this seat's program. -/
namespace Go.Proofs.YtddchcekljndmaaGreat
open Go.ChangeShapes Go.WideShapes Go.ChangeAt Go.RowKit
namespace En
open Ba Re

/-- an event: kind, goroutine, channel, case, value, mate, Send, OK -/
structure Ev where
  k : Int
  g : Int
  c : Int
  a : Int
  v : Int
  m : Int
  s : Bool
  o : Bool
def evc (e : Ev) : Array Value := #[.int .i64 e.k, .int .i64 e.g, .int .i64 e.c, .int .i64 e.a, .int .i64 e.v, .int .i64 e.m, .bool e.s, .bool e.o]
def evv (e : Ev) : Value := .agg (evc e)
theorem size_ev : (Tryz.prog.info? 66).map (·.size) = some 8 := by kernel_rfl
theorem loadVar_ev {w : World} {b : Nat} {c : Array Value} {t : TypeId} (h : w.heap[b]? = some (.cells c t (0, 0))) (hc : c.size = 8) : (loadVar 66 ⟨b, 0, none⟩).run Tryz.prog w = .ok (.agg c) w :=
  run_loadVar_row w b t _ _ _ _ h Tryz.underlying66 rfl (by rw [size_ev, hc])
theorem results_row1 {fn : Func} {p : Tmp} {ty : TypeId} (h : fn.results = #[.cell p ty]) (tmps : Array Value) (w : World) (g : Nat) (cs : Array Value)
    (hp : tmps.getD p undef = .pointer (some ⟨g, 0, none⟩)) (hl : (loadVar ty ⟨g, 0, none⟩).run Tryz.prog w = .ok (.agg cs) w) :
    (results fn tmps).run Tryz.prog w = .ok (.agg cs) w := by
  have hp' : tmps[p]?.getD undef = .pointer (some ⟨g, 0, none⟩) := by simpa using hp
  simp [results, h, hp', asAddr, hl]
theorem heap_new2 (w : World) (a b : Obj) : ((w.alloc a).alloc b).heap[w.heap.size + 1]? = some b := by
  have := heap_new (w.alloc a) b
  rw [World.size_alloc] at this
  exact this
theorem bare_any (k g : Int) (w : World) :
    Calls Tryz.prog 41 #[.int .i64 k, .int .i64 g] w fun r w' => r = .returned (.agg #[.int .i64 k, .int .i64 g, .int .i64 (-1), .int .i64 (-1), .int .i64 (-1), .int .i64 (-1), .bool false, .bool false]) ∧ Below w.heap.size w w' := by
  go_enter Tryz.func41, Tryz.ntmps41
  go_wp2_with fail
  exact bodyPost_ret (results_row1 Tryz.results41 _ _ _ _ rfl (loadVar_ev (heap_new _ _) rfl)) rfl ⟨rfl, below_alloc _ _⟩
/-- the greatest value -/
def vm (e : Ev) : Int := if (e.s || e.o) = true then 99 else 0
/-- the least and the greatest mate -/
def ml (e : Ev) : Int := if e.k = 7 then 0 else -1
def mh (e : Ev) : Int := if e.k = 7 then 511 else if (e.s || e.o) = true then 511 else -1
def inS (n lo hi : Int) : Bool := decide (lo ≤ n) && decide (n ≤ hi)
/-- do Send and OK fit the kind? -/
def ff (e : Ev) : Bool :=
  if e.k = 3 then e.s && !e.o else if e.k = 4 then !e.s else if e.k = 6 then !e.o && !(e.s && (e.a != -1)) else if e.k = 7 then e.o || !e.s else !e.s && !e.o
/-- an event lies in block B -/
def EAt (w : World) (B : Nat) (e : Ev) : Prop := w.heap[B]? = some (.cells (evc e) 66 (0, 0))
end En
end Go.Proofs.YtddchcekljndmaaGreat
/- Goroutines as rows of records in memory; what becomes of them. -/
namespace Go.Proofs.YtddchcekljndmaaGreat
open Go.ChangeShapes Go.WideShapes Go.ChangeAt Go.RowKit
namespace Cr
open Ba

/-- a goroutine: its program, its place, its state -/
structure Mb where
  p : Int
  q : Int
  s : Int
def mc (l : List Mb) : List Value := l.flatMap fun x => [.int .i64 x.p, .int .i64 x.q, .int .i64 x.s]
theorem mc_nil : mc [] = [] := rfl
theorem mc_cons (x : Mb) (l : List Mb) : mc (x :: l) = .int .i64 x.p :: .int .i64 x.q :: .int .i64 x.s :: mc l := rfl
theorem mc_app (l m : List Mb) : mc (l ++ m) = mc l ++ mc m := by simp [mc]
theorem mc_len (l : List Mb) : (mc l).length = l.length * 3 := by
  induction l with
  | nil => rfl
  | cons x l ih => rw [mc_cons]; simp; omega
theorem mc_at : ∀ (l : List Mb) (k : Nat) (x : Mb), l[k]? = some x → (mc l)[k * 3]? = some (.int .i64 x.p) ∧ (mc l)[k * 3 + 1]? = some (.int .i64 x.q) ∧ (mc l)[k * 3 + 2]? = some (.int .i64 x.s)
  | [], _, _, h => by simp at h
  | y :: l, 0, x, h => by simp at h; subst h; exact ⟨rfl, rfl, rfl⟩
  | y :: l, k + 1, x, h => by
    rw [mc_cons]
    have := mc_at l k x (by simpa using h)
    rw [show (k + 1) * 3 = k * 3 + 3 by omega]
    exact this
theorem mc_one (l : List Mb) : ∀ u ∈ mc l, u.oneCell' = true := by
  induction l with
  | nil => intro u hu; simp [mc_nil] at hu
  | cons x l ih =>
    intro u hu
    rw [mc_cons] at hu
    simp at hu
    rcases hu with rfl | rfl | rfl | hu
    · rfl
    · rfl
    · rfl
    · exact ih u hu
theorem mc_set1 : ∀ (l : List Mb) (k : Nat) (x : Mb) (y : Int), l[k]? = some x → (mc l).set (k * 3 + 1) (.int .i64 y) = mc (l.set k ⟨x.p, y, x.s⟩)
  | [], _, _, _, h => by simp at h
  | z :: l, 0, x, y, h => by simp at h; subst h; rfl
  | z :: l, k + 1, x, y, h => by
    rw [List.set_cons_succ, mc_cons, mc_cons, ← mc_set1 l k x y (by simpa using h), show (k + 1) * 3 + 1 = k * 3 + 1 + 1 + 1 + 1 by omega]
    simp only [List.set_cons_succ]
theorem mc_set2 : ∀ (l : List Mb) (k : Nat) (x : Mb) (y : Int), l[k]? = some x → (mc l).set (k * 3 + 2) (.int .i64 y) = mc (l.set k ⟨x.p, x.q, y⟩)
  | [], _, _, _, h => by simp at h
  | z :: l, 0, x, y, h => by simp at h; subst h; rfl
  | z :: l, k + 1, x, y, h => by
    rw [List.set_cons_succ, mc_cons, mc_cons, ← mc_set2 l k x y (by simpa using h), show (k + 1) * 3 + 2 = k * 3 + 2 + 1 + 1 + 1 by omega]
    simp only [List.set_cons_succ]
/-- the cells from oa on are those of l -/
def MAt (w : World) (oa : Option Addr) (l : List Mb) : Prop :=
  ∀ k x, l[k]? = some x → ∃ b, oa = some ⟨b, 0, none⟩ ∧ w.cell? ⟨b, k * 3, none⟩ = some (.int .i64 x.p) ∧ w.cell? ⟨b, k * 3 + 1, none⟩ = some (.int .i64 x.q) ∧ w.cell? ⟨b, k * 3 + 2, none⟩ = some (.int .i64 x.s)
theorem MAt.nil (w : World) (oa : Option Addr) : MAt w oa [] := fun _ _ h => by simp at h
theorem MAt.below {w w' : World} {oa : Option Addr} {l : List Mb} (h : MAt w oa l) (hb : Below w.heap.size w w') : MAt w' oa l := by
  intro k x hk
  obtain ⟨b, e, h0, h1, h2⟩ := h k x hk
  exact ⟨b, e, (hb.cell (World.block_lt_of_cell? w _ h0)).trans h0, (hb.cell (World.block_lt_of_cell? w _ h1)).trans h1, (hb.cell (World.block_lt_of_cell? w _ h2)).trans h2⟩
theorem owns_mat {w : World} {base : Nat} {e : TypeId} {v : Value} {l : List Mb} (h : w.ownsRow base e 3 v l.length (mc l)) : ∃ oa c, v = .slice oa l.length c ∧ MAt w oa l ∧ l.length ≤ c := by
  rcases h.2 with ⟨rfl, h0⟩ | ⟨g, cap, cur, rfl, _, hg, hc, _, hcs, htk⟩
  · refine ⟨none, 0, by rw [h0], ?_, by omega⟩
    obtain rfl := List.eq_nil_of_length_eq_zero h0
    exact MAt.nil _ _
  · refine ⟨_, cap, rfl, ?_, hc⟩
    intro k x hk
    have hkl := (List.getElem?_eq_some_iff.1 hk).1
    obtain ⟨q0, q1, q2⟩ := mc_at l k x hk
    rw [← htk, List.getElem?_take_of_lt (by omega)] at q0 q1 q2
    refine ⟨g, rfl, ?_, ?_, ?_⟩
    · rw [cell_of hg]; simpa using q0
    · rw [cell_of hg]; simpa using q1
    · rw [cell_of hg]; simpa using q2
theorem src3 (w : World) (x : Mb) (t : TypeId) : ∀ j u, (mc [x])[j]? = some u → (w.alloc (.cells #[.int .i64 x.p, .int .i64 x.q, .int .i64 x.s] t)).cell? ((⟨w.heap.size, 0, none⟩ : Addr).add j) = some u := by
  intro j u hj
  rw [Addr.add_lit, Nat.zero_add, cell_of (heap_new _ _)]
  rw [mc_cons, mc_nil] at hj
  rw [← hj]
  simp
theorem own_keep {w w' : World} {base : Nat} {e : TypeId} {size : Nat} {v : Value} {n : Nat} {xs : List Value} (h : w.ownsRow base e size v n xs) (hk : ∀ g, v.ownBlock = some g → w'.heap[g]? = w.heap[g]?) : w'.ownsRow base e size v n xs := by
  refine ⟨h.1, ?_⟩
  rcases h.2 with q | ⟨g, cap, cur, q1, q2, q3, q4⟩
  · exact .inl q
  · exact .inr ⟨g, cap, cur, q1, q2, (hk g (by rw [q1]; rfl)).trans q3, q4⟩
theorem own_blk {w : World} {base : Nat} {e : TypeId} {size : Nat} {v : Value} {n : Nat} {xs : List Value} (h : w.ownsRow base e size v n xs) (g : Nat) (hg : v.ownBlock = some g) : base ≤ g ∧ ∃ cur, w.heap[g]? = some (.cells cur e (0, 0)) := by
  rcases h.2 with ⟨rfl, _⟩ | ⟨g', cap, cur, rfl, q2, q3, q4⟩
  · simp [Value.ownBlock] at hg
  · simp [Value.ownBlock] at hg
    subst hg
    exact ⟨q2, cur, q3⟩
theorem own_set {w : World} {base : Nat} {e : TypeId} {g n cap j : Nat} {xs : List Value} (h : w.ownsRow base e 3 (.slice (some ⟨g, 0, none⟩) n cap) n xs) (u : Value) : (w.setCell ⟨g, j, none⟩ u).ownsRow base e 3 (.slice (some ⟨g, 0, none⟩) n cap) n (xs.set j u) := by
  refine ⟨by rw [List.length_set]; exact h.1, ?_⟩
  rcases h.2 with ⟨q, _⟩ | ⟨g', cap', cur, q1, q2, q3, q4, q5, q6, q7⟩
  · cases q
  · cases q1
    refine .inr ⟨g, cap, _, rfl, q2, Ba.heap_setCell_same q3 u, q4, q5, by simpa using q6, ?_⟩
    rw [Array.toList_setIfInBounds, List.take_set, q7]

/-- what a crew of header type T and record type E is in memory: block B, all inside F -/
structure Cw (T E : TypeId) (w : World) (B : Nat) (F : Nat → Prop) (oa : Option Addr) (c : Nat) (l : List Mb) : Prop where
  hp : w.heap[B]? = some (.cells #[.slice oa l.length c] T (0, 0))
  ow : w.ownsRow 0 E 3 (.slice oa l.length c) l.length (mc l)
  fb : F B
  fr : ∀ g, (Value.slice oa l.length c).ownBlock = some g → F g
  bd : Bd F w
  le : l.length ≤ 512
def Cq (T E : TypeId) (w : World) (B : Nat) (F : Nat → Prop) (l : List Mb) : Prop := ∃ oa c, Cw T E w B F oa c l
section
variable {T E : TypeId} {w w' : World} {B : Nat} {F K : Nat → Prop} {oa : Option Addr} {c : Nat} {l : List Mb}
theorem Cw.at (h : Cw T E w B F oa c l) : MAt w oa l ∧ l.length ≤ c := by
  obtain ⟨oa', c', e, h1, h2⟩ := owns_mat h.ow
  cases e
  exact ⟨h1, h2⟩
theorem Cw.lt (h : Cw T E w B F oa c l) : B < w.heap.size := heap_lt h.hp
theorem Cq.lt (h : Cq T E w B F l) : B < w.heap.size := by
  obtain ⟨oa, c, h⟩ := h
  exact h.lt
theorem Cq.le (h : Cq T E w B F l) : l.length ≤ 512 := by
  obtain ⟨oa, c, h⟩ := h
  exact h.le
theorem Cq.bd (h : Cq T E w B F l) : Bd F w := by
  obtain ⟨oa, c, h⟩ := h
  exact h.bd
theorem Cw.sm (h : Cw T E w B F oa c l) (s : Sm F w w') : Cw T E w' B F oa c l :=
  ⟨s.heap h.fb h.hp, own_keep h.ow fun g e => s g (h.fr g e), h.fb, h.fr, h.bd.sm s, h.le⟩
theorem Cw.below (h : Cw T E w B F oa c l) (hb : Below w.heap.size w w') : Cw T E w' B F oa c l := h.sm (Sm.below hb h.bd)
theorem Cq.below (h : Cq T E w B F l) (hb : Below w.heap.size w w') : Cq T E w' B F l := by
  obtain ⟨oa, c, h⟩ := h
  exact ⟨oa, c, h.below hb⟩
theorem Cq.kf (h : Cq T E w B F l) (k : KF K w w') (hd : ∀ x, F x → ¬ K x) : Cq T E w' B F l := by
  obtain ⟨oa, c, h⟩ := h
  exact ⟨oa, c, h.sm (Sm.kf k h.bd hd)⟩
/-- a record's cell is laid anew -/
theorem Cw.set1 {g k : Nat} {x : Mb} (h : Cw T E w B F (some ⟨g, 0, none⟩) c l) (hT : T ≠ E) (hk : l[k]? = some x) (y : Int) : Cw T E (w.setCell ⟨g, k * 3 + 1, none⟩ (.int .i64 y)) B F (some ⟨g, 0, none⟩) c (l.set k ⟨x.p, y, x.s⟩) := by
  have K := (KB.refl g w).setCell (k * 3 + 1) (.int .i64 y)
  have hg : g ≠ B := by
    intro e
    obtain ⟨_, cur, q⟩ := own_blk h.ow g rfl
    rw [e, h.hp] at q
    cases q
    exact hT rfl
  refine ⟨?_, ?_, h.fb, ?_, h.bd.mono K.size, by rw [List.length_set]; exact h.le⟩
  · rw [List.length_set]; exact K.heap h.hp (Ne.symm hg)
  · rw [List.length_set, ← mc_set1 l k x y hk]; exact own_set h.ow _
  · rw [List.length_set]; exact h.fr
theorem Cw.set2 {g k : Nat} {x : Mb} (h : Cw T E w B F (some ⟨g, 0, none⟩) c l) (hT : T ≠ E) (hk : l[k]? = some x) (y : Int) : Cw T E (w.setCell ⟨g, k * 3 + 2, none⟩ (.int .i64 y)) B F (some ⟨g, 0, none⟩) c (l.set k ⟨x.p, x.q, y⟩) := by
  have K := (KB.refl g w).setCell (k * 3 + 2) (.int .i64 y)
  have hg : g ≠ B := by
    intro e
    obtain ⟨_, cur, q⟩ := own_blk h.ow g rfl
    rw [e, h.hp] at q
    cases q
    exact hT rfl
  refine ⟨?_, ?_, h.fb, ?_, h.bd.mono K.size, by rw [List.length_set]; exact h.le⟩
  · rw [List.length_set]; exact K.heap h.hp (Ne.symm hg)
  · rw [List.length_set, ← mc_set2 l k x y hk]; exact own_set h.ow _
  · rw [List.length_set]; exact h.fr
/-- one more -/
def Fw (F : Nat → Prop) (v : Value) : Nat → Prop := fun k => F k ∨ v.ownBlock = some k
theorem Cw.put {v0 : Value} {m : List Mb} (hG : w.heap[B]? = some (.cells #[v0] T (0, 0))) (ow : w.ownsRow 0 E 3 (.slice oa m.length c) m.length (mc m)) (hT : T ≠ E) (fb : F B) (bd : Bd F w) (le : m.length ≤ 512) : Cw T E (w.setCell ⟨B, 0, none⟩ (.slice oa m.length c)) B (Fw F (.slice oa m.length c)) oa c m := by
  have K := (KB.refl B w).setCell 0 (.slice oa m.length c)
  refine ⟨(Ba.heap_setCell_same hG _).trans rfl, own_keep ow fun g e => ?_, .inl fb, fun g e => .inr e, ?_, le⟩
  · obtain ⟨_, cur, q⟩ := own_blk ow g e
    refine K.block g (heap_lt q) fun e2 => ?_
    rw [e2, hG] at q
    cases q
    exact hT rfl
  · intro k hk
    refine Nat.lt_of_lt_of_le ?_ K.size
    rcases hk with q | q
    · exact bd k q
    · obtain ⟨_, cur, q⟩ := own_blk ow k q
      exact heap_lt q
end

/-! ### what becomes of a crew -/
def spE (l : List Mb) (p : Int) : Int := if p < 0 then 1 else if 512 ≤ l.length then 5 else 0
def spV (l : List Mb) (p : Int) : Int := if p < 0 then 0 else if 512 ≤ l.length then 0 else l.length
def spL (l : List Mb) (p : Int) : List Mb := if p < 0 then l else if 512 ≤ l.length then l else l ++ [⟨p, 0, 0⟩]
/-- the goroutine g -/
def gt (l : List Mb) (g : Int) : Option Mb := if g < 0 then none else l[g.toNat]?
def thr (l : List Mb) (g : Int) : Bool := (gt l g).isSome
def one0 (o : Option Mb) : Mb := o.getD ⟨0, 0, 0⟩
def chE (l : List Mb) (g a : Int) : Int := match gt l g with
  | none => 6
  | some x => if x.s = a then 0 else 7
def chL (l : List Mb) (g a b d : Int) : List Mb := match gt l g with
  | none => l
  | some x => if x.s = a then l.set g.toNat ⟨x.p, x.q + d, b⟩ else l
def ablF : Nat → List Mb → List Int
  | _, [] => []
  | k, x :: l => if x.s = 0 then (k : Int) :: ablF (k + 1) l else ablF (k + 1) l
def abl (l : List Mb) : List Int := ablF 0 l
def hasS (l : List Mb) (s : Int) : Bool := l.any fun x => x.s == s
def ovr (l : List Mb) : Int := if hasS l 0 then 0 else if hasS l 1 then 2 else 1
theorem gt_none {l : List Mb} {g : Int} (h : gt l g = none) : g < 0 ∨ (l.length : Int) ≤ g := by
  unfold gt at h
  split at h
  · exact .inl ‹_›
  · rw [List.getElem?_eq_none_iff] at h
    omega
theorem gt_some {l : List Mb} {g : Int} {x : Mb} (h : gt l g = some x) : ∃ k : Nat, g = (k : Int) ∧ k < l.length ∧ l[k]? = some x := by
  unfold gt at h
  split at h
  · cases h
  · exact ⟨g.toNat, by omega, (List.getElem?_eq_some_iff.1 h).1, h⟩
theorem gt_nat (l : List Mb) (k : Nat) : gt l (k : Int) = l[k]? := by
  unfold gt
  rw [if_neg (by omega), Int.toNat_natCast]
theorem gt_out {l : List Mb} {g : Int} (h : g < 0 ∨ (l.length : Int) ≤ g) : gt l g = none := by
  unfold gt
  split
  · rfl
  · rw [List.getElem?_eq_none_iff]
    omega
/-- places up to K, states from 0 to 2 -/
def Bn (K : Nat) (l : List Mb) : Prop := ∀ x ∈ l, (0 ≤ x.q ∧ x.q ≤ K) ∧ 0 ≤ x.s ∧ x.s ≤ 2
theorem Bn.nil (K : Nat) : Bn K [] := fun _ h => by simp at h
theorem Bn.mono {K M : Nat} {l : List Mb} (h : Bn K l) (hK : K ≤ M) : Bn M l := fun x hx => by have := h x hx; omega
theorem Bn.at {K : Nat} {l : List Mb} (h : Bn K l) {k : Nat} {x : Mb} (hx : l[k]? = some x) : (0 ≤ x.q ∧ x.q ≤ K) ∧ 0 ≤ x.s ∧ x.s ≤ 2 := h x (List.mem_of_getElem? hx)
theorem Bn.gt {K : Nat} {l : List Mb} (h : Bn K l) {g : Int} {x : Mb} (hx : gt l g = some x) : (0 ≤ x.q ∧ x.q ≤ K) ∧ 0 ≤ x.s ∧ x.s ≤ 2 := by
  obtain ⟨k, _, _, q⟩ := gt_some hx
  exact h.at q
theorem Bn.sp {K : Nat} {l : List Mb} (h : Bn K l) (p : Int) : Bn K (spL l p) := by
  unfold spL
  split
  · exact h
  · split
    · exact h
    · intro x hx
      rcases List.mem_append.1 hx with q | q
      · exact h x q
      · simp at q
        subst q
        exact ⟨⟨by simp, by simp⟩, by simp, by simp⟩
theorem Bn.ch {K : Nat} {l : List Mb} (h : Bn K l) (g a b d : Int) (hb : 0 ≤ b ∧ b ≤ 2) (hd : 0 ≤ d ∧ d ≤ 1) : Bn (K + 1) (chL l g a b d) := by
  unfold chL
  cases hg : Cr.gt l g with
  | none => exact h.mono (Nat.le_succ _)
  | some x =>
    have hx := h.gt hg
    simp only
    split
    · intro y hy
      rcases List.mem_or_eq_of_mem_set hy with q | q
      · exact (h.mono (Nat.le_succ _)) y q
      · subst q
        simp only
        omega
    · exact h.mono (Nat.le_succ _)
theorem ablF_app : ∀ (k : Nat) (l m : List Mb), ablF k (l ++ m) = ablF k l ++ ablF (k + l.length) m
  | k, [], m => by simp [ablF]
  | k, x :: l, m => by
    have h := ablF_app (k + 1) l m
    rw [show k + 1 + l.length = k + (x :: l).length by simp; omega] at h
    simp only [List.cons_append, ablF, h]
    split <;> simp
theorem ablF_len : ∀ (k : Nat) (l : List Mb), (ablF k l).length ≤ l.length
  | _, [] => by simp [ablF]
  | k, x :: l => by
    have h := ablF_len (k + 1) l
    simp only [ablF]
    split <;> simp <;> omega
theorem abl_len (l : List Mb) : (abl l).length ≤ l.length := ablF_len 0 l
theorem abl_take {l : List Mb} {k : Nat} {x : Mb} (h : l[k]? = some x) : abl (l.take (k + 1)) = abl (l.take k) ++ if x.s = 0 then [(k : Int)] else [] := by
  have hk := (List.getElem?_eq_some_iff.1 h).1
  unfold abl
  rw [List.take_add_one, h, ablF_app]
  congr 1
  rw [List.length_take, Nat.min_eq_left (by omega), Nat.zero_add]
  simp [ablF]
theorem hasS_take {l : List Mb} {k : Nat} {x : Mb} (h : l[k]? = some x) (s : Int) : hasS (l.take (k + 1)) s = (hasS (l.take k) s || x.s == s) := by
  unfold hasS
  rw [List.take_add_one, h, List.any_append]
  simp
/-! ### the law's two, as numbers -/
theorem ovr_cases (l : List Mb) : ovr l = 0 ∨ ovr l = 1 ∨ ovr l = 2 := by
  unfold ovr
  split
  · exact .inl rfl
  · split
    · exact .inr (.inr rfl)
    · exact .inr (.inl rfl)
end Cr
end Go.Proofs.YtddchcekljndmaaGreat
/- Package crew, over this seat's program: New, all, find, State, At, Len, change, Go, Park, Wake, Exit. -/
namespace Go.Proofs.YtddchcekljndmaaGreat
open Go.ChangeShapes Go.WideShapes Go.ChangeAt Go.RowKit
namespace Cr
open Ba

abbrev PC (w : World) (B : Nat) (F : Nat → Prop) (l : List Mb) : Prop := Cq 108 114 w B F l
theorem new_any (w : World) :
    Calls Tryz.prog 25 #[] w fun r w' => r = .returned (.pointer (some ⟨w.heap.size, 0, none⟩)) ∧ PC w' w.heap.size (fun k => k = w.heap.size) [] ∧ Below w.heap.size w w' := by
  go_enter Tryz.func25, Tryz.ntmps25
  go_wp2_with fail
  go_ret
  have hs := World.size_alloc w (.cells #[.slice none 0 0] 108)
  exact ⟨rfl, ⟨none, 0, heap_new _ _, World.ownsRow_nil _ _ _ _, rfl, fun g e => by simp [Value.ownBlock] at e, fun k (e : k = _) => by rw [hs]; omega, by simp⟩, below_alloc _ _⟩
theorem all_nil (w : World) :
    Calls Tryz.prog 65 #[.pointer none] w fun r w' => r = .returned (.slice none 0 0) ∧ w' = w := by
  go_enter Tryz.func65, Tryz.ntmps65
  go_wp2_with fail
  go_ret
  exact ⟨rfl, rfl⟩
theorem all_c (B : Nat) (oa : Option Addr) (n c : Nat) (w : World) (h : w.cell? ⟨B, 0, none⟩ = some (.slice oa n c)) :
    Calls Tryz.prog 65 #[.pointer (some ⟨B, 0, none⟩)] w fun r w' => r = .returned (.slice oa n c) ∧ w' = w := by
  go_enter Tryz.func65, Tryz.ntmps65
  go_wp2_with fail
  go_ret
  exact ⟨rfl, rfl⟩
theorem find_nil (g : Int) (w : World) :
    Calls Tryz.prog 87 #[.pointer none, .int .i64 g] w fun r w' => r = .returned (.pointer none) ∧ w' = w := by
  cases h1 : decide (g < 0)
  · have d2 : decide (0 ≤ g) = true := by simp at h1 ⊢; omega
    go_enter Tryz.func87, Tryz.ntmps87
    go_wp2_with fail
    refine (all_nil _).mono ?_
    rintro r w1 ⟨rfl, rfl⟩
    go_wp2_with fail
    go_ret
    exact ⟨rfl, rfl⟩
  · go_enter Tryz.func87, Tryz.ntmps87
    go_wp2_with fail
    refine (all_nil _).mono ?_
    rintro r w1 ⟨rfl, rfl⟩
    go_wp2_with fail
    go_ret
    exact ⟨rfl, rfl⟩
theorem find_out (B : Nat) (F : Nat → Prop) (l : List Mb) (g : Int) (w : World) (h : PC w B F l) (hg : gt l g = none) :
    Calls Tryz.prog 87 #[.pointer (some ⟨B, 0, none⟩), .int .i64 g] w fun r w' => r = .returned (.pointer none) ∧ w' = w := by
  obtain ⟨oa, c, h⟩ := h
  have AL := hide (all_c B oa l.length c w (cell_of h.hp 0))
  have hg' := gt_none hg
  clear h hg
  cases h1 : decide (g < 0)
  · have d2 : decide ((l.length : Int) ≤ g) = true := by simp at h1 ⊢; omega
    clear hg'
    go_enter Tryz.func87, Tryz.ntmps87
    go_wp2_with fail
    refine AL.out.mono ?_
    rintro r w1 ⟨rfl, rfl⟩
    go_wp2_with fail
    go_ret
    exact ⟨rfl, rfl⟩
  · clear hg'
    go_enter Tryz.func87, Tryz.ntmps87
    go_wp2_with fail
    refine AL.out.mono ?_
    rintro r w1 ⟨rfl, rfl⟩
    go_wp2_with fail
    go_ret
    exact ⟨rfl, rfl⟩
theorem find_in (B : Nat) (F : Nat → Prop) (b c : Nat) (l : List Mb) (k : Nat) (x : Mb) (w : World) (h : Cw 108 114 w B F (some ⟨b, 0, none⟩) c l) (hx : l[k]? = some x) :
    Calls Tryz.prog 87 #[.pointer (some ⟨B, 0, none⟩), .int .i64 (k : Int)] w fun r w' => r = .returned (.pointer (some ⟨b, k * 3, none⟩)) ∧ w' = w := by
  have AL := hide (all_c B (some ⟨b, 0, none⟩) l.length c w (cell_of h.hp 0))
  have hk := (List.getElem?_eq_some_iff.1 hx).1
  have hle := h.le
  clear h hx
  have d1 : decide ((k : Int) < 0) = false := decide_eq_false (by omega)
  have d2 : decide ((l.length : Int) ≤ (k : Int)) = false := decide_eq_false (by omega)
  have d3 : (k : Int) < (l.length : Int) := by omega
  go_enter Tryz.func87, Tryz.ntmps87
  go_wp2_with fail
  refine AL.out.mono ?_
  rintro r w1 ⟨rfl, rfl⟩
  go_wp2_with fail
  go_ret
  exact ⟨rfl, rfl⟩
theorem Cw.got {w : World} {B : Nat} {F : Nat → Prop} {oa : Option Addr} {c : Nat} {l : List Mb} {k : Nat} {x : Mb} (h : Cw 108 114 w B F oa c l) (hx : l[k]? = Option.some x) : ∃ b, oa = Option.some ⟨b, 0, none⟩ ∧ w.cell? ⟨b, k * 3, none⟩ = Option.some (.int .i64 x.p) ∧ w.cell? ⟨b, k * 3 + 1, none⟩ = Option.some (.int .i64 x.q) ∧ w.cell? ⟨b, k * 3 + 2, none⟩ = Option.some (.int .i64 x.s) := h.at.1 k x hx
theorem state_nil (g : Int) (w : World) :
    Calls Tryz.prog 52 #[.pointer none, .int .i64 g] w fun r w' => r = .returned (.tuple #[.int .i64 0, .bool false]) ∧ w' = w := by
  go_enter Tryz.func52, Tryz.ntmps52
  go_wp2_with fail
  refine (find_nil g _).mono ?_
  rintro r w1 ⟨rfl, rfl⟩
  go_wp2_with fail
  go_ret2
  exact ⟨rfl, rfl⟩
theorem state_any (B : Nat) (F : Nat → Prop) (l : List Mb) (g : Int) (w : World) (h : PC w B F l) :
    Calls Tryz.prog 52 #[.pointer (some ⟨B, 0, none⟩), .int .i64 g] w fun r w' => r = .returned (.tuple #[.int .i64 (one0 (gt l g)).s, .bool (thr l g)]) ∧ w' = w := by
  unfold thr
  cases hg : gt l g with
  | none =>
    have FO := hide (find_out B F l g w h hg)
    clear h hg
    go_enter Tryz.func52, Tryz.ntmps52
    go_wp2_with fail
    refine FO.out.mono ?_
    rintro r w1 ⟨rfl, rfl⟩
    go_wp2_with fail
    go_ret2
    exact ⟨rfl, rfl⟩
  | some x =>
    obtain ⟨k, rfl, hk, hx⟩ := gt_some hg
    obtain ⟨oa, c, h⟩ := h
    obtain ⟨b, rfl, q0, q1, q2⟩ := h.got hx
    have FI := hide (find_in B F b c l k x w h hx)
    clear h hg hx
    go_enter Tryz.func52, Tryz.ntmps52
    go_wp2_with fail
    refine FI.out.mono ?_
    rintro r w1 ⟨rfl, rfl⟩
    go_wp2_with fail
    go_ret2
    exact ⟨rfl, rfl⟩
theorem at_nil (g : Int) (w : World) :
    Calls Tryz.prog 66 #[.pointer none, .int .i64 g] w fun r w' => r = .returned (.tuple #[.int .i64 0, .int .i64 0, .bool false]) ∧ w' = w := by
  go_enter Tryz.func66, Tryz.ntmps66
  go_wp2_with fail
  refine (find_nil g _).mono ?_
  rintro r w1 ⟨rfl, rfl⟩
  go_wp2_with fail
  go_ret3
  exact ⟨rfl, rfl⟩
theorem at_any (B : Nat) (F : Nat → Prop) (l : List Mb) (g : Int) (w : World) (h : PC w B F l) :
    Calls Tryz.prog 66 #[.pointer (some ⟨B, 0, none⟩), .int .i64 g] w fun r w' => r = .returned (.tuple #[.int .i64 (one0 (gt l g)).p, .int .i64 (one0 (gt l g)).q, .bool (thr l g)]) ∧ Below w.heap.size w w' := by
  unfold thr
  cases hg : gt l g with
  | none =>
    have FO := hide (find_out B F l g w h hg)
    clear h hg
    go_enter Tryz.func66, Tryz.ntmps66
    go_wp2_with fail
    refine FO.out.mono ?_
    rintro r w1 ⟨rfl, rfl⟩
    go_wp2_with fail
    go_ret3
    exact ⟨rfl, Below.refl _ _⟩
  | some x =>
    obtain ⟨k, rfl, hk, hx⟩ := gt_some hg
    obtain ⟨oa, c, h⟩ := h
    obtain ⟨b, rfl, q0, q1, q2⟩ := h.got hx
    have FI := hide (find_in B F b c l k x w h hx)
    clear h hg hx
    go_enter Tryz.func66, Tryz.ntmps66
    go_wp2_with fail
    refine FI.out.mono ?_
    rintro r w1 ⟨rfl, rfl⟩
    go_wp2_with fail
    go_quiet (fail)
    go_wp2_with fail
    go_ret3
    exact ⟨rfl, bdrew _ _⟩
theorem len_nil (w : World) :
    Calls Tryz.prog 51 #[.pointer none] w fun r w' => r = .returned (.int .i64 0) ∧ w' = w := by
  go_enter Tryz.func51, Tryz.ntmps51
  go_wp2_with fail
  refine (all_nil _).mono ?_
  rintro r w1 ⟨rfl, rfl⟩
  go_wp2_with fail
  go_ret
  exact ⟨rfl, rfl⟩
theorem len_any (B : Nat) (F : Nat → Prop) (l : List Mb) (w : World) (h : PC w B F l) :
    Calls Tryz.prog 51 #[.pointer (some ⟨B, 0, none⟩)] w fun r w' => r = .returned (.int .i64 (l.length : Int)) ∧ w' = w := by
  obtain ⟨oa, c, h⟩ := h
  have AL := hide (all_c B oa l.length c w (cell_of h.hp 0))
  clear h
  go_enter Tryz.func51, Tryz.ntmps51
  go_wp2_with fail
  refine AL.out.mono ?_
  rintro r w1 ⟨rfl, rfl⟩
  go_wp2_with fail
  go_ret
  exact ⟨rfl, rfl⟩
end Cr
end Go.Proofs.YtddchcekljndmaaGreat
/- Package crew, over this seat's program: change, Go, Park, Wake, Exit. -/
namespace Go.Proofs.YtddchcekljndmaaGreat
open Go.ChangeShapes Go.WideShapes Go.ChangeAt Go.RowKit
namespace Cr
open Ba

/-- behind a call the crew is l', and nothing else has changed -/
def Po (T E : TypeId) (w w' : World) (B : Nat) (F : Nat → Prop) (l : List Mb) : Prop := ∃ F', Cq T E w' B F' l ∧ KF F w w' ∧ Nw F' F w
theorem Po.of {T E : TypeId} {w w' : World} {B : Nat} {F : Nat → Prop} {l : List Mb} (h : Cq T E w B F l) (b : Below w.heap.size w w') : Po T E w w' B F l := ⟨F, h.below b, KF.of b, Nw.refl _ _⟩
theorem Cw.both {T E : TypeId} {w : World} {B : Nat} {F : Nat → Prop} {c : Nat} {l : List Mb} {m k : Nat} {x : Mb} (h : Cw T E w B F (some ⟨m, 0, none⟩) c l) (hT : T ≠ E) (hx : l[k]? = some x) (y b : Int) : Cw T E ((w.setCell ⟨m, k * 3 + 2, none⟩ (.int .i64 b)).setCell ⟨m, k * 3 + 1, none⟩ (.int .i64 y)) B F (some ⟨m, 0, none⟩) c (l.set k ⟨x.p, y, b⟩) := by
  have h2 := (h.set2 hT hx b).set1 hT (k := k) (x := ⟨x.p, x.q, b⟩) (by rw [List.getElem?_set_self (List.getElem?_eq_some_iff.1 hx).1]) y
  rw [List.set_set] at h2
  exact h2
def tv (a b d : Int) : Value := .agg #[.int .i64 a, .int .i64 b, .int .i64 d]
theorem change_nil (g a b d : Int) (w : World) :
    Calls Tryz.prog 94 #[.pointer none, .int .i64 g, tv a b d] w fun r w' => r = .returned (.int .i64 6) ∧ Below w.heap.size w w' := by
  unfold tv
  go_enter Tryz.func94, Tryz.ntmps94
  go_wp2_with fail
  refine (find_nil g _).mono ?_
  rintro r w1 ⟨rfl, rfl⟩
  go_wp2_with fail
  go_ret
  exact ⟨rfl, below_alloc _ _⟩
set_option maxHeartbeats 1600000 in
theorem change_any (B : Nat) (F : Nat → Prop) (l : List Mb) (K : Nat) (g a b d : Int) (w : World) (h : PC w B F l) (hn : Bn K l) (hK : K ≤ 100000) (hd : 0 ≤ d ∧ d ≤ 1) :
    Calls Tryz.prog 94 #[.pointer (some ⟨B, 0, none⟩), .int .i64 g, tv a b d] w fun r w' => r = .returned (.int .i64 (chE l g a)) ∧ Po 108 114 w w' B F (chL l g a b d) := by
  unfold chE chL
  cases hg : gt l g with
  | none =>
    simp only
    have FO := hide (find_out B F l g _ (h.below (below_alloc w (.cells #[.int .i64 a, .int .i64 b, .int .i64 d] 155))) hg)
    have H := hide h
    clear h hg
    unfold tv
    go_enter Tryz.func94, Tryz.ntmps94
    go_wp2_with fail
    refine FO.out.mono ?_
    rintro r w1 ⟨rfl, rfl⟩
    go_wp2_with fail
    go_ret
    exact ⟨rfl, Po.of H.out (below_alloc _ _)⟩
  | some x =>
    simp only
    obtain ⟨k, rfl, hk, hx⟩ := gt_some hg
    rw [Int.toNat_natCast]
    obtain ⟨oa, c, h⟩ := h
    have hb1 := hn.at hx
    have H := hide h
    have H1 := hide (h.below (below_alloc w (.cells #[.int .i64 a, .int .i64 b, .int .i64 d] 155)))
    obtain ⟨m, rfl, q0, q1, q2⟩ := H1.out.got hx
    have FI := hide (find_in B F m c l k x _ H1.out hx)
    have Q := hide (heap_new w (.cells #[.int .i64 a, .int .i64 b, .int .i64 d] 155))
    have t0 : (w.alloc (.cells #[.int .i64 a, .int .i64 b, .int .i64 d] 155)).cell? ⟨w.heap.size, 0, none⟩ = some (.int .i64 a) := cell_of Q.out 0
    have t1 : (w.alloc (.cells #[.int .i64 a, .int .i64 b, .int .i64 d] 155)).cell? ⟨w.heap.size, 1, none⟩ = some (.int .i64 b) := cell_of Q.out 1
    have t2 : (w.alloc (.cells #[.int .i64 a, .int .i64 b, .int .i64 d] 155)).cell? ⟨w.heap.size, 2, none⟩ = some (.int .i64 d) := cell_of Q.out 2
    have BA := hide (below_alloc w (.cells #[.int .i64 a, .int .i64 b, .int .i64 d] 155))
    obtain ⟨_, cur, hm⟩ := own_blk h.ow m rfl
    have hm1 := heap_lt hm
    have hmr := heap_below hm BA.out
    have z1 := frozen_of hmr (k * 3 + 1)
    have z2 := frozen_of hmr (k * 3 + 2)
    have hFm := hide (h.fr m rfl)
    have HX := hide hx
    have hne : m ≠ w.heap.size := by omega
    clear h hg hx hm hmr hn
    by_cases hs : x.s = a
    · rw [if_pos hs, if_pos hs]
      have e1 : (x.s != a) = false := by simp [hs]
      have HS := hide hs
      clear hs
      unfold tv
      go_enter Tryz.func94, Tryz.ntmps94
      go_wp2_with fail
      generalize w.alloc (.cells #[.int .i64 a, .int .i64 b, .int .i64 d] 155) = W at FI Q t0 t1 t2 BA q0 q1 q2 z1 z2 H1 ⊢
      refine FI.out.mono ?_
      rintro r w1 ⟨rfl, rfl⟩
      go_wp2_with fail
      go_quiet (fail)
      go_wp2_with fail
      go_region
      all_goals
        go_wp2_with fail
        go_ret
        exact ⟨rfl, F, ⟨some ⟨m, 0, none⟩, c, ((H1.out.below (bdrew _ _)).both (by decide) HX.out _ _).below (bdrew1 _)⟩, ((((KF.of (btr BA.out (bdrew _ _))).set hFm.out _ _).set hFm.out _ _).then (bdrew1 _)), Nw.refl _ _⟩
    · rw [if_neg hs, if_neg hs]
      have e1 : (x.s != a) = true := by simp [hs]
      clear hs
      unfold tv
      go_enter Tryz.func94, Tryz.ntmps94
      go_wp2_with fail
      generalize w.alloc (.cells #[.int .i64 a, .int .i64 b, .int .i64 d] 155) = W at FI Q t0 t1 t2 BA q0 q1 q2 z1 z2 H1 ⊢
      refine FI.out.mono ?_
      rintro r w1 ⟨rfl, rfl⟩
      go_wp2_with fail
      go_quiet (fail)
      go_wp2_with fail
      go_ret
      exact ⟨rfl, Po.of ⟨_, _, H.out⟩ (btr BA.out (bdrew _ _))⟩
theorem go_nil (g : Int) (w : World) :
    Calls Tryz.prog 92 #[.pointer none, .int .i64 g] w fun r w' => r = .returned (.int .i64 6) ∧ Below w.heap.size w w' := by
  go_enter Tryz.func92, Tryz.ntmps92
  go_wp2_with fail
  refine (change_nil g 0 0 1 _).mono ?_
  rintro r w1 ⟨rfl, b1⟩
  have B1 := hide b1
  clear b1
  go_wp2_with fail
  go_ret
  exact ⟨rfl, B1.out⟩
theorem park_nil (g : Int) (w : World) :
    Calls Tryz.prog 123 #[.pointer none, .int .i64 g] w fun r w' => r = .returned (.int .i64 6) ∧ Below w.heap.size w w' := by
  go_enter Tryz.func123, Tryz.ntmps123
  go_wp2_with fail
  refine (change_nil g 0 1 0 _).mono ?_
  rintro r w1 ⟨rfl, b1⟩
  have B1 := hide b1
  clear b1
  go_wp2_with fail
  go_ret
  exact ⟨rfl, B1.out⟩
theorem wake_nil (g : Int) (w : World) :
    Calls Tryz.prog 125 #[.pointer none, .int .i64 g] w fun r w' => r = .returned (.int .i64 6) ∧ Below w.heap.size w w' := by
  go_enter Tryz.func125, Tryz.ntmps125
  go_wp2_with fail
  refine (change_nil g 1 0 1 _).mono ?_
  rintro r w1 ⟨rfl, b1⟩
  have B1 := hide b1
  clear b1
  go_wp2_with fail
  go_ret
  exact ⟨rfl, B1.out⟩
theorem exit_nil (g : Int) (w : World) :
    Calls Tryz.prog 70 #[.pointer none, .int .i64 g] w fun r w' => r = .returned (.int .i64 6) ∧ Below w.heap.size w w' := by
  go_enter Tryz.func70, Tryz.ntmps70
  go_wp2_with fail
  refine (change_nil g 0 2 0 _).mono ?_
  rintro r w1 ⟨rfl, b1⟩
  have B1 := hide b1
  clear b1
  go_wp2_with fail
  go_ret
  exact ⟨rfl, B1.out⟩
theorem go_any (B : Nat) (F : Nat → Prop) (l : List Mb) (K : Nat) (g : Int) (w : World) (h : PC w B F l) (hn : Bn K l) (hK : K ≤ 100000) :
    Calls Tryz.prog 92 #[.pointer (some ⟨B, 0, none⟩), .int .i64 g] w fun r w' => r = .returned (.int .i64 (chE l g 0)) ∧ Po 108 114 w w' B F (chL l g 0 0 1) := by
  have CH := hide (change_any B F l K g 0 0 1 w h hn hK (by decide))
  clear h hn
  unfold tv at CH
  generalize chE l g 0 = e at CH ⊢
  generalize chL l g 0 0 1 = l' at CH ⊢
  go_enter Tryz.func92, Tryz.ntmps92
  go_wp2_with fail
  refine CH.out.mono ?_
  rintro r w1 ⟨rfl, p1⟩
  have P1 := hide p1
  clear p1
  go_wp2_with fail
  go_ret
  exact ⟨rfl, P1.out⟩
theorem park_any (B : Nat) (F : Nat → Prop) (l : List Mb) (K : Nat) (g : Int) (w : World) (h : PC w B F l) (hn : Bn K l) (hK : K ≤ 100000) :
    Calls Tryz.prog 123 #[.pointer (some ⟨B, 0, none⟩), .int .i64 g] w fun r w' => r = .returned (.int .i64 (chE l g 0)) ∧ Po 108 114 w w' B F (chL l g 0 1 0) := by
  have CH := hide (change_any B F l K g 0 1 0 w h hn hK (by decide))
  clear h hn
  unfold tv at CH
  generalize chE l g 0 = e at CH ⊢
  generalize chL l g 0 1 0 = l' at CH ⊢
  go_enter Tryz.func123, Tryz.ntmps123
  go_wp2_with fail
  refine CH.out.mono ?_
  rintro r w1 ⟨rfl, p1⟩
  have P1 := hide p1
  clear p1
  go_wp2_with fail
  go_ret
  exact ⟨rfl, P1.out⟩
theorem wake_any (B : Nat) (F : Nat → Prop) (l : List Mb) (K : Nat) (g : Int) (w : World) (h : PC w B F l) (hn : Bn K l) (hK : K ≤ 100000) :
    Calls Tryz.prog 125 #[.pointer (some ⟨B, 0, none⟩), .int .i64 g] w fun r w' => r = .returned (.int .i64 (chE l g 1)) ∧ Po 108 114 w w' B F (chL l g 1 0 1) := by
  have CH := hide (change_any B F l K g 1 0 1 w h hn hK (by decide))
  clear h hn
  unfold tv at CH
  generalize chE l g 1 = e at CH ⊢
  generalize chL l g 1 0 1 = l' at CH ⊢
  go_enter Tryz.func125, Tryz.ntmps125
  go_wp2_with fail
  refine CH.out.mono ?_
  rintro r w1 ⟨rfl, p1⟩
  have P1 := hide p1
  clear p1
  go_wp2_with fail
  go_ret
  exact ⟨rfl, P1.out⟩
theorem exit_any (B : Nat) (F : Nat → Prop) (l : List Mb) (K : Nat) (g : Int) (w : World) (h : PC w B F l) (hn : Bn K l) (hK : K ≤ 100000) :
    Calls Tryz.prog 70 #[.pointer (some ⟨B, 0, none⟩), .int .i64 g] w fun r w' => r = .returned (.int .i64 (chE l g 0)) ∧ Po 108 114 w w' B F (chL l g 0 2 0) := by
  have CH := hide (change_any B F l K g 0 2 0 w h hn hK (by decide))
  clear h hn
  unfold tv at CH
  generalize chE l g 0 = e at CH ⊢
  generalize chL l g 0 2 0 = l' at CH ⊢
  go_enter Tryz.func70, Tryz.ntmps70
  go_wp2_with fail
  refine CH.out.mono ?_
  rintro r w1 ⟨rfl, p1⟩
  have P1 := hide p1
  clear p1
  go_wp2_with fail
  go_ret
  exact ⟨rfl, P1.out⟩
end Cr
end Go.Proofs.YtddchcekljndmaaGreat
/- Package crew, over this seat's program: Spawn. -/
namespace Go.Proofs.YtddchcekljndmaaGreat
open Go.ChangeShapes Go.WideShapes Go.ChangeAt Go.RowKit
namespace Cr
open Ba

theorem info_mb : (Tryz.prog.info? 114).map (fun i => (i.zero, i.size, i.bytes)) = some (some (tv 0 0 0), 3, 24) := by kernel_rfl
theorem spawn_nil (p : Int) (w : World) :
    Calls Tryz.prog 27 #[.pointer none, .int .i64 p] w fun r w' => r = .returned (.tuple #[.int .i64 0, .int .i64 (if p < 0 then 1 else 7)]) ∧ w' = w := by
  by_cases h1 : p < 0
  · rw [if_pos h1]
    go_enter Tryz.func27, Tryz.ntmps27
    go_wp2_with fail
    go_ret2
    exact ⟨rfl, rfl⟩
  · rw [if_neg h1]
    have d1 : decide (p < 0) = false := decide_eq_false h1
    go_enter Tryz.func27, Tryz.ntmps27
    go_wp2_with fail
    go_ret2
    exact ⟨rfl, rfl⟩
/-- what an append of one record leaves, behind the store into the header -/
theorem Cw.grow {T E : TypeId} {w w1 w2 : World} {B : Nat} {F : Nat → Prop} {oa oa' : Option Addr} {c c' : Nat} {l : List Mb} {x : Mb} (h : Cw T E w1 B F oa c l) (b1 : Below w.heap.size w w1) (hF : Bd F w) (hT : T ≠ E)
    (ho : w2.ownsRow 0 E 3 (.slice oa' (l ++ [x]).length c') (l ++ [x]).length (mc (l ++ [x]))) (hg : w1.grownBy w2 (Value.slice oa l.length c).ownBlock)
    (hat : (Value.slice oa' (l ++ [x]).length c').ownBlock = (Value.slice oa l.length c).ownBlock ∨ (Value.slice oa' (l ++ [x]).length c').ownBlock = some w1.heap.size) (hl : l.length < 512) :
    Po T E w (w2.setCell ⟨B, 0, none⟩ (.slice oa' (l ++ [x]).length c')) B F (l ++ [x]) := by
  have hB : some B ≠ (Value.slice oa l.length c).ownBlock := own_ty h.ow h.hp hT
  have hB2 : w2.heap[B]? = some (.cells #[.slice oa l.length c] T (0, 0)) := (hg.block B h.lt hB).trans h.hp
  have kf : KF F w w2 := by
    refine ⟨hg.os.trans b1.os, hg.tape.trans b1.tape, hg.output.trans b1.output, Nat.le_trans b1.size hg.size, fun k hk hn => ?_⟩
    refine (hg.block k (Nat.lt_of_lt_of_le hk b1.size) ?_).trans (b1.block k hk)
    intro e
    exact hn (h.fr k e.symm)
  refine ⟨_, ⟨oa', c', Cw.put hB2 ho hT h.fb ((hF.mono b1.size).mono hg.size) (by simp; omega)⟩, kf.set h.fb _ _, ?_⟩
  intro k hk
  rcases hk with q | q
  · exact .inl q
  · rcases hat with e | e
    · rw [e] at q
      exact .inl (h.fr k q)
    · rw [e] at q
      cases q
      exact .inr b1.size
set_option maxRecDepth 100000 in
set_option maxHeartbeats 1600000 in
theorem spawn_any (B : Nat) (F : Nat → Prop) (l : List Mb) (p : Int) (w : World) (h : PC w B F l) :
    Calls Tryz.prog 27 #[.pointer (some ⟨B, 0, none⟩), .int .i64 p] w fun r w' => r = .returned (.tuple #[.int .i64 (spV l p), .int .i64 (spE l p)]) ∧ Po 108 114 w w' B F (spL l p) := by
  unfold spV spE spL
  by_cases h1 : p < 0
  · simp only [if_pos h1]
    have H := hide h
    clear h
    go_enter Tryz.func27, Tryz.ntmps27
    go_wp2_with fail
    go_ret2
    exact ⟨rfl, Po.of H.out (Below.refl _ _)⟩
  simp only [if_neg h1]
  have d1 : decide (p < 0) = false := decide_eq_false h1
  have hle := h.le
  obtain ⟨oa, c, h⟩ := h
  have hB := h.lt
  have y0 : w.cell? ⟨B, 0, none⟩ = some (.slice oa l.length c) := cell_of h.hp 0
  by_cases h2 : 512 ≤ l.length
  · simp only [if_pos h2]
    have hl : l.length = 512 := by omega
    have H := hide h
    rw [hl] at y0
    clear h hl h2 hle
    go_enter Tryz.func27, Tryz.ntmps27
    go_wp2_with fail
    go_ret2
    exact ⟨rfl, Po.of ⟨_, _, H.out⟩ (Below.refl _ _)⟩
  simp only [if_neg h2]
  have e1 : (((l.length : Nat) : Int) == 512) = false := by rw [beq_eq_false_iff_ne]; omega
  have hl : l.length < 512 := by omega
  have BD := hide h.bd
  have b1 := below_alloc w (.cells #[.int .i64 p, .int .i64 0, .int .i64 0] 114)
  have B1 := hide b1
  have H1 := hide (h.below b1)
  have f0 : w.frozen? ⟨B, 0, none⟩ = false := frozen_of h.hp 0
  cases hi : Tryz.prog.info? 114 with
  | none => have := info_mb; rw [hi] at this; cases this
  | some i0 =>
  have hx := info_mb
  rw [hi] at hx
  simp at hx
  have INF := hide (And.intro hi hx)
  clear hx hi h2 hle h b1
  go_enter Tryz.func27, Tryz.ntmps27
  go_wp2_with (at_builtin; refine wpList_append_own_at _ rfl _ _ 106 rfl 0 114 i0 (tv 0 0 0) 3 24 Tryz.underlying106 INF.out.1 INF.out.2.1 INF.out.2.2.1 INF.out.2.2.2 rfl (by decide) _ _ _ rfl H1.out.ow ⟨w.heap.size, 0, none⟩ 1 1 (mc [⟨p, 0, 0⟩]) rfl rfl ?c1 ?c2 ?c3 ?c4 (Nat.zero_le _) ?_)
  case c1 => first | exact src3 w ⟨p, 0, 0⟩ _ | exact fun j u hj => hj
  case c2 => exact mc_one _
  case c3 => unfold maxLen; omega
  case c4 => omega
  intro v' w2 ho hg _ hat
  rw [← mc_app] at ho
  have ho2 : w2.ownsRow 0 114 3 v' (l ++ [Mb.mk p 0 0]).length (mc (l ++ [Mb.mk p 0 0])) := by rw [List.length_append]; exact ho
  obtain ⟨oa', c', rfl, _, _⟩ := owns_mat ho2
  have hB1 : some B ≠ (Value.slice oa l.length c).ownBlock := own_ty H1.out.ow H1.out.hp (by decide)
  have hB2 : w2.heap[B]? = some (.cells #[.slice oa l.length c] 108 (0, 0)) := (hg.block B H1.out.lt hB1).trans H1.out.hp
  have y2 : w2.cell? ⟨B, 0, none⟩ = some (.slice oa l.length c) := cell_of hB2 0
  have f2 : w2.frozen? ⟨B, 0, none⟩ = false := frozen_of hB2 0
  have PO := hide (H1.out.grow B1.out BD.out (by decide) ho2 hg (by rw [World.size_alloc]; exact hat) hl)
  clear ho ho2 hg hat hB1 hB2
  generalize (l ++ [Mb.mk p 0 0]).length = n2 at PO ⊢
  go_wp2_with fail
  go_ret2
  exact ⟨rfl, PO.out⟩
end Cr
end Go.Proofs.YtddchcekljndmaaGreat
/- Package crew, over this seat's program: Able, Over. -/
namespace Go.Proofs.YtddchcekljndmaaGreat
open Go.ChangeShapes Go.WideShapes Go.ChangeAt Go.RowKit
namespace Cr
open Ba

def ic (l : List Int) : List Value := l.map (Value.int .i64)
theorem ic_app (l m : List Int) : ic (l ++ m) = ic l ++ ic m := by simp [ic]
theorem info_i : (Tryz.prog.info? 3).map (fun i => (i.zero, i.size, i.bytes)) = some (some (.int .i64 0), 1, 8) := by kernel_rfl
theorem own_at {w : World} {base : Nat} {v : Value} {l : List Int} (h : w.ownsRow base 3 1 v l.length (ic l)) : ∃ oa c, v = .slice oa l.length c ∧ At w oa l ∧ l.length ≤ c := by
  rcases h.2 with ⟨rfl, h0⟩ | ⟨g, cap, cur, rfl, _, hg, hc, _, hcs, htk⟩
  · refine ⟨none, 0, by rw [h0], ?_, by omega⟩
    obtain rfl := List.eq_nil_of_length_eq_zero h0
    exact At.nil _ _
  · refine ⟨_, cap, rfl, ?_, hc⟩
    intro k hk
    refine ⟨g, 0, rfl, ?_⟩
    have q : (ic l)[k]? = some (.int .i64 (nth l k)) := by simp [ic, nth, hk]
    rw [← htk, List.getElem?_take_of_lt (by omega)] at q
    rw [Nat.zero_add, cell_of hg]
    simpa using q
theorem able_nil (w : World) :
    Calls Tryz.prog 34 #[.pointer none] w fun r w' => r = .returned (.slice none 0 0) ∧ w' = w := by
  go_enter Tryz.func34, Tryz.ntmps34
  go_wp2_with fail
  refine (all_nil _).mono ?_
  rintro r w1 ⟨rfl, rfl⟩
  go_wp2_with fail
  go_loop [3, 9] (fun l i => l = .slice none 0 0 ∧ i = .int .i64 0) (fun _ i => 0)
  case atStart => exact ⟨rfl, rfl⟩
  case round =>
    obtain ⟨rfl, rfl⟩ := hrel
    go_wp2_with fail
    go_ret
    exact ⟨rfl, rfl⟩
set_option maxRecDepth 100000 in
set_option maxHeartbeats 1600000 in
theorem able_any (B : Nat) (F : Nat → Prop) (l : List Mb) (w : World) (h : Cq 108 114 w B F l) :
    Calls Tryz.prog 34 #[.pointer (some ⟨B, 0, none⟩)] w fun r w' => ∃ ob d, r = .returned (.slice ob (abl l).length d) ∧ At w' ob (abl l) ∧ Below w.heap.size w w' := by
  cases hi : Tryz.prog.info? 3 with
  | none => have := info_i; rw [hi] at this; cases this
  | some i0 =>
  have hx2 := info_i
  rw [hi] at hx2
  simp at hx2
  have INF := hide (And.intro hi hx2)
  clear hx2 hi
  have hle := h.le
  obtain ⟨oa, c, h⟩ := h
  have hB := h.lt
  have y0 : w.cell? ⟨B, 0, none⟩ = some (.slice oa l.length c) := cell_of h.hp 0
  have HA := hide h.at.1
  have AL := hide y0
  clear h
  go_enter Tryz.func34, Tryz.ntmps34
  go_wp2_with fail
  refine (all_c B oa l.length c _ AL.out).mono ?_
  rintro r w1 ⟨rfl, hw⟩
  subst w1
  go_wp2_with fail
  go_loopw [3, 9] (fun rv i wr => ∃ (v : Value) (k : Nat), k ≤ l.length ∧ i = .int .i64 k ∧ rv = v ∧ wr.ownsRow w.heap.size 3 1 v (abl (l.take k)).length (ic (abl (l.take k))) ∧ Below w.heap.size w wr) (fun _ i _ => l.length - (intOf i).toNat)
  case atStart => exact ⟨_, 0, Nat.zero_le _, rfl, rfl, World.ownsRow_nil _ _ _ _, Below.refl _ _⟩
  case round =>
    obtain ⟨v, k, hk, rfl, rfl, ho, hb⟩ := hrel
    by_cases hlt : k < l.length
    · have hlt' : (k : Int) < (l.length : Int) := by omega
      obtain ⟨x, hx⟩ : ∃ x, l[k]? = some x := ⟨_, List.getElem?_eq_getElem hlt⟩
      obtain ⟨b, rfl, q0, q1, q2⟩ := HA.out.below hb k x hx
      have DT := hide (abl_take hx)
      have hdl : (abl (l.take k)).length ≤ k := by
        have h1 := abl_len (l.take k)
        have h2 := List.length_take_le k l
        omega
      clear hx
      obtain ⟨X, hX⟩ : ∃ X, X = abl (l.take k) := ⟨_, rfl⟩
      rw [← hX] at DT hdl ho
      clear hX
      have BX := below_alloc wr (.cells #[.int .i64 x.p, .int .i64 x.q, .int .i64 x.s] 114)
      by_cases hs : x.s = 0
      · have EX : Hid (abl (l.take (k + 1)) = X ++ [(k : Int)]) := by
          show _ = _
          rw [DT.out, if_pos hs]
        rw [hs] at q2 BX
        have OW1 := own_below ho BX
        have HB1 := btr hb BX
        have BY := below_alloc (wr.alloc (.cells #[.int .i64 x.p, .int .i64 x.q, .int .i64 0] 114)) (.cells #[.int .i64 (k : Int)] 3)
        have OW := hide (own_below OW1 BY)
        have HB := hide (btr HB1 BY)
        have SR := cell_one_new (wr.alloc (.cells #[.int .i64 x.p, .int .i64 x.q, .int .i64 0] 114)) (.int .i64 (k : Int)) 3
        rw [World.size_alloc] at SR
        have SRC := hide SR
        clear OW1 HB1 BY SR ho hb BX DT hs
        go_wp2_with (at_builtin; refine wpList_append_own _ rfl _ _ 23 rfl w.heap.size 3 i0 (.int .i64 0) 1 8 Tryz.underlying23 INF.out.1 INF.out.2.1 INF.out.2.2.1 INF.out.2.2.2 rfl (by decide) _ _ _ rfl OW.out ⟨wr.heap.size + 1, 0, none⟩ 1 1 [.int .i64 (k : Int)] rfl rfl ?c1 ?c2 ?c3 ?c4 ?c5 ?_)
        case c1 => first | exact SRC.out | exact fun j u hj => hj
        case c2 => intro u hu; simp at hu; subst hu; rfl
        case c3 => unfold maxLen; omega
        case c4 => omega
        case c5 => first | exact HB.out.size | (have := HB.out.size; rw [World.size_alloc, World.size_alloc] at this; exact this)
        intro v' w3 ho hg3 _
        have B3 : Hid (Below w.heap.size w w3) := HB.out.grown hg3 HB.out.size (fun x hx => (OW.out.lt x hx).1)
        have O3 : Hid (w3.ownsRow w.heap.size 3 1 v' (abl (l.take (k + 1))).length (ic (abl (l.take (k + 1))))) := by
          show World.ownsRow _ _ _ _ _ _ _
          rw [EX.out, ic_app, List.length_append]
          exact ho
        clear ho hg3
        go_wp2_with fail
        go_roundw
        case rel =>
          first
            | exact ⟨v', k + 1, by omega, by go_num, rfl, O3.out, B3.out⟩
            | ((repeat apply Exists.intro); exact ⟨⟨v', k + 1, by omega, by go_num, rfl, O3.out, B3.out⟩, rfl⟩)
        case measure => simp [intOf]; omega
      · have hs' : (x.s == 0) = false := by simpa using hs
        have EX : Hid (abl (l.take (k + 1)) = X) := by
          show _ = _
          rw [DT.out, if_neg hs, List.append_nil]
        have O3 : Hid ((wr.alloc (.cells #[.int .i64 x.p, .int .i64 x.q, .int .i64 x.s] 114)).ownsRow w.heap.size 3 1 u3 (abl (l.take (k + 1))).length (ic (abl (l.take (k + 1))))) := by
          show World.ownsRow _ _ _ _ _ _ _
          rw [EX.out]
          exact own_below ho BX
        have B3 := hide (btr hb BX)
        clear ho hb BX DT hs
        go_wp2_with fail
        go_roundw
        case rel =>
          first
            | exact ⟨_, k + 1, by omega, by go_num, rfl, O3.out, B3.out⟩
            | exact ⟨k + 1, by omega, by go_num, O3.out, B3.out⟩
        case measure => simp [intOf]; omega
    · have hlt' : ¬ ((k : Int) < (l.length : Int)) := by omega
      rw [List.take_of_length_le (by omega)] at ho
      obtain ⟨oa', c', hv', hA', _⟩ := own_at ho
      subst hv'
      have HA' := hide hA'
      have HB := hide hb
      clear ho hb hA'
      go_wp2_with fail
      go_ret
      first
        | exact ⟨oa', c', rfl, HA'.out, HB.out⟩
        | exact ⟨oa', ⟨c', rfl⟩, HA'.out, HB.out⟩

theorem over_nil (w : World) :
    Calls Tryz.prog 37 #[.pointer none] w fun r w' => r = .returned (.int .i64 1) ∧ Below w.heap.size w w' := by
  have A0 := hide (heap_new w (.cells #[.int .i64 0, .int .i64 0, .int .i64 0] 121))
  have B0 := hide (below_alloc w (.cells #[.int .i64 0, .int .i64 0, .int .i64 0] 121))
  have c0 : (w.alloc (.cells #[.int .i64 0, .int .i64 0, .int .i64 0] 121)).cell? ⟨w.heap.size, 0, none⟩ = some (.int .i64 0) := cell_of A0.out 0
  have c1 : (w.alloc (.cells #[.int .i64 0, .int .i64 0, .int .i64 0] 121)).cell? ⟨w.heap.size, 1, none⟩ = some (.int .i64 0) := cell_of A0.out 1
  go_enter Tryz.func37, Tryz.ntmps37
  go_wp2_with fail
  refine (all_nil _).mono ?_
  rintro r w1 ⟨rfl, rfl⟩
  go_wp2_with fail
  go_loop [9] (fun i => i = .int .i64 0) (fun i => 0)
  case atStart => rfl
  case round =>
    subst hrel
    go_wp2_with fail
    go_ret
    exact ⟨rfl, B0.out⟩
/-- how many are in each state -/
structure Ct (wr : World) (A : Nat) (l : List Mb) (k : Nat) (n0 n1 n2 : Int) : Prop where
  hp : wr.heap[A]? = some (.cells #[.int .i64 n0, .int .i64 n1, .int .i64 n2] 121 (0, 0))
  b0 : 0 ≤ n0 ∧ n0 ≤ k
  b1 : 0 ≤ n1 ∧ n1 ≤ k
  b2 : 0 ≤ n2 ∧ n2 ≤ k
  h0 : decide (0 < n0) = hasS (l.take k) 0
  h1 : decide (0 < n1) = hasS (l.take k) 1
theorem Ct.below {w w' : World} {A : Nat} {l : List Mb} {k : Nat} {n0 n1 n2 : Int} (h : Ct w A l k n0 n1 n2) (hb : Below w.heap.size w w') : Ct w' A l k n0 n1 n2 := ⟨heap_below h.hp hb, h.b0, h.b1, h.b2, h.h0, h.h1⟩
theorem Ct.add0 {w : World} {A : Nat} {l : List Mb} {k : Nat} {n0 n1 n2 : Int} {x : Mb} (h : Ct w A l k n0 n1 n2) (hx : l[k]? = some x) (hs : x.s = 0) : Ct (w.setCell ⟨A, 0, none⟩ (.int .i64 (n0 + 1))) A l (k + 1) (n0 + 1) n1 n2 := by
  have q0 := h.b0
  have q1 := h.b1
  have q2 := h.b2
  refine ⟨(Ba.heap_setCell_same h.hp _).trans rfl, by omega, by omega, by omega, ?_, ?_⟩
  · rw [hasS_take hx, hs, decide_eq_true (by omega)]; simp
  · rw [hasS_take hx, hs, h.h1]; simp
theorem Ct.add1 {w : World} {A : Nat} {l : List Mb} {k : Nat} {n0 n1 n2 : Int} {x : Mb} (h : Ct w A l k n0 n1 n2) (hx : l[k]? = some x) (hs : x.s = 1) : Ct (w.setCell ⟨A, 1, none⟩ (.int .i64 (n1 + 1))) A l (k + 1) n0 (n1 + 1) n2 := by
  have q0 := h.b0
  have q1 := h.b1
  have q2 := h.b2
  refine ⟨(Ba.heap_setCell_same h.hp _).trans rfl, by omega, by omega, by omega, ?_, ?_⟩
  · rw [hasS_take hx, hs, h.h0]; simp
  · rw [hasS_take hx, hs, decide_eq_true (by omega)]; simp
theorem Ct.add2 {w : World} {A : Nat} {l : List Mb} {k : Nat} {n0 n1 n2 : Int} {x : Mb} (h : Ct w A l k n0 n1 n2) (hx : l[k]? = some x) (hs : x.s = 2) : Ct (w.setCell ⟨A, 2, none⟩ (.int .i64 (n2 + 1))) A l (k + 1) n0 n1 (n2 + 1) := by
  have q0 := h.b0
  have q1 := h.b1
  have q2 := h.b2
  refine ⟨(Ba.heap_setCell_same h.hp _).trans rfl, by omega, by omega, by omega, ?_, ?_⟩
  · rw [hasS_take hx, hs, h.h0]; simp
  · rw [hasS_take hx, hs, h.h1]; simp
set_option maxRecDepth 100000 in
set_option maxHeartbeats 1600000 in
theorem over_any (B : Nat) (F : Nat → Prop) (l : List Mb) (K : Nat) (w : World) (h : PC w B F l) (hn : Bn K l) :
    Calls Tryz.prog 37 #[.pointer (some ⟨B, 0, none⟩)] w fun r w' => r = .returned (.int .i64 (ovr l)) ∧ Below w.heap.size w w' := by
  have hle := h.le
  have hB := h.lt
  have BA := hide (below_alloc w (.cells #[.int .i64 0, .int .i64 0, .int .i64 0] 121))
  have A0 := hide (heap_new w (.cells #[.int .i64 0, .int .i64 0, .int .i64 0] 121))
  obtain ⟨oa, c, h⟩ := h
  have AL := hide (all_c B oa l.length c _ (cell_of (h.below BA.out).hp 0))
  have HA := hide h.at.1
  have HN := hide hn
  clear h hn
  go_enter Tryz.func37, Tryz.ntmps37
  go_wp2_with fail
  have C0 : Hid (Ct (w.alloc (.cells #[.int .i64 0, .int .i64 0, .int .i64 0] 121)) w.heap.size l 0 0 0 0) := ⟨A0.out, by omega, by omega, by omega, rfl, rfl⟩
  clear A0
  generalize w.alloc (.cells #[.int .i64 0, .int .i64 0, .int .i64 0] 121) = W at BA AL C0 ⊢
  refine AL.out.mono ?_
  rintro r w1 ⟨rfl, hw⟩
  subst w1
  go_wp2_with fail
  go_loopw [9] (fun i wr => ∃ (k : Nat) (n0 n1 n2 : Int), k ≤ l.length ∧ i = .int .i64 k ∧ Ct wr w.heap.size l k n0 n1 n2 ∧ Below w.heap.size w wr) (fun i _ => l.length - (intOf i).toNat)
  case atStart => exact ⟨0, 0, 0, 0, Nat.zero_le _, rfl, C0.out, BA.out⟩
  case round =>
    clear C0 BA AL
    obtain ⟨k, n0, n1, n2, hk, rfl, c2, b2⟩ := hrel
    have C2 := hide c2
    have B2 := hide b2
    clear c2 b2
    have hAw := heap_lt C2.out.hp
    have q00 := C2.out.b0
    have q01 := C2.out.b1
    have q02 := C2.out.b2
    have c0 : wr.cell? ⟨w.heap.size, 0, none⟩ = some (.int .i64 n0) := cell_of C2.out.hp 0
    have c1 : wr.cell? ⟨w.heap.size, 1, none⟩ = some (.int .i64 n1) := cell_of C2.out.hp 1
    have c2 : wr.cell? ⟨w.heap.size, 2, none⟩ = some (.int .i64 n2) := cell_of C2.out.hp 2
    have z0 := frozen_of C2.out.hp 0
    have z1 := frozen_of C2.out.hp 1
    have z2 := frozen_of C2.out.hp 2
    by_cases hlt : k < l.length
    · have hlt' : (k : Int) < (l.length : Int) := by omega
      obtain ⟨x, hx⟩ : ∃ x, l[k]? = some x := ⟨_, List.getElem?_eq_getElem hlt⟩
      obtain ⟨b, rfl, q0, q1, q2⟩ := HA.out.below B2.out k x hx
      have hs := HN.out.at hx
      have HX := hide hx
      clear hx
      have hs : x.s = 0 ∨ x.s = 1 ∨ x.s = 2 := by omega
      rcases hs with hs | hs | hs
      · have sl : x.s = 0 := hs
        rw [sl] at q2
        have C3 := hide ((C2.out.add0 HX.out sl).below (below_alloc _ (.cells #[.int .i64 x.p, .int .i64 x.q, .int .i64 0] 114)))
        have B3 : Hid (Below w.heap.size w _) := btr (B2.out.setCell (p := ⟨w.heap.size, 0, none⟩) (Nat.le_refl _) (.int .i64 (n0 + 1))) (below_alloc _ (.cells #[.int .i64 x.p, .int .i64 x.q, .int .i64 0] 114))
        clear sl
        go_wp2_with fail
        go_roundw
        case rel => exact ⟨k + 1, (n0 + 1), n1, n2, by omega, by go_num, C3.out, B3.out⟩
        case measure => simp [intOf]; omega
      · have sl : x.s = 1 := hs
        rw [sl] at q2
        have C3 := hide ((C2.out.add1 HX.out sl).below (below_alloc _ (.cells #[.int .i64 x.p, .int .i64 x.q, .int .i64 1] 114)))
        have B3 : Hid (Below w.heap.size w _) := btr (B2.out.setCell (p := ⟨w.heap.size, 1, none⟩) (Nat.le_refl _) (.int .i64 (n1 + 1))) (below_alloc _ (.cells #[.int .i64 x.p, .int .i64 x.q, .int .i64 1] 114))
        clear sl
        go_wp2_with fail
        go_roundw
        case rel => exact ⟨k + 1, n0, (n1 + 1), n2, by omega, by go_num, C3.out, B3.out⟩
        case measure => simp [intOf]; omega
      · have sl : x.s = 2 := hs
        rw [sl] at q2
        have C3 := hide ((C2.out.add2 HX.out sl).below (below_alloc _ (.cells #[.int .i64 x.p, .int .i64 x.q, .int .i64 2] 114)))
        have B3 : Hid (Below w.heap.size w _) := btr (B2.out.setCell (p := ⟨w.heap.size, 2, none⟩) (Nat.le_refl _) (.int .i64 (n2 + 1))) (below_alloc _ (.cells #[.int .i64 x.p, .int .i64 x.q, .int .i64 2] 114))
        clear sl
        go_wp2_with fail
        go_roundw
        case rel => exact ⟨k + 1, n0, n1, (n2 + 1), by omega, by go_num, C3.out, B3.out⟩
        case measure => simp [intOf]; omega
    · have hlt' : ¬ ((k : Int) < (l.length : Int)) := by omega
      have E0 := hide C2.out.h0
      have E1 := hide C2.out.h1
      rw [List.take_of_length_le (by omega)] at E0 E1
      have EO : Hid (ovr l = if decide (0 < n0) = true then 0 else if decide (0 < n1) = true then 2 else 1) := by
        show _ = _
        unfold ovr
        rw [← E0.out, ← E1.out]
      by_cases h0 : 0 < n0
      · go_wp2_with fail
        go_ret
        exact ⟨ret_int (by rw [EO.out, if_pos (decide_eq_true h0)]), B2.out⟩
      · have d0 : decide (0 < n0) = false := decide_eq_false h0
        by_cases h1 : 0 < n1
        · go_wp2_with fail
          go_ret
          exact ⟨ret_int (by rw [EO.out, d0, if_neg (by simp), if_pos (decide_eq_true h1)]), B2.out⟩
        · have d1 : decide (0 < n1) = false := decide_eq_false h1
          go_wp2_with fail
          go_ret
          exact ⟨ret_int (by rw [EO.out, d0, d1, if_neg (by simp), if_neg (by simp)]), B2.out⟩
end Cr
end Go.Proofs.YtddchcekljndmaaGreat
/- The laws' own Ints, over this seat's program. -/
namespace Go.Proofs.YtddchcekljndmaaGreat
open Go.ChangeShapes Go.WideShapes Go.ChangeAt Go.RowKit
namespace Ba

theorem info_int : (Tryz.prog.info? 3).map (fun i => (i.zero, i.size, i.bytes)) = some (some (.int .i64 0), 1, 8) := by kernel_rfl
end Ba
end Go.Proofs.YtddchcekljndmaaGreat
/- Package deed: operations; isCount, upTo, reach, isCase, over this seat's program. -/
namespace Go.Proofs.YtddchcekljndmaaGreat
open Go.ChangeShapes Go.WideShapes Go.ChangeAt Go.RowKit
namespace De
open Ba Re

/-- a case -/
structure Cs where
  send : Bool
  ch : Int
  val : Int
/-- an operation -/
structure OpD where
  kind : Int
  a : Int
  b : Int
  cases : List Cs
  def_ : Bool
/-- the cells from oa on hold cases -/
def CAt (w : World) (oa : Option Addr) (l : List Cs) : Prop :=
  ∀ k, ∀ x, l[k]? = some x → ∃ b off, oa = some ⟨b, off, none⟩ ∧ w.cell? ⟨b, off + k * 3, none⟩ = some (.bool x.send) ∧ w.cell? ⟨b, off + k * 3 + 1, none⟩ = some (.int .i64 x.ch) ∧ w.cell? ⟨b, off + k * 3 + 2, none⟩ = some (.int .i64 x.val)
theorem CAt.below {w w' : World} {oa : Option Addr} {l : List Cs} (h : CAt w oa l) (hb : Below w.heap.size w w') : CAt w' oa l := by
  intro k x hk
  obtain ⟨b, off, he, h1, h2, h3⟩ := h k x hk
  exact ⟨b, off, he, (hb.cell (World.block_lt_of_cell? w _ h1)).trans h1, (hb.cell (World.block_lt_of_cell? w _ h2)).trans h2, (hb.cell (World.block_lt_of_cell? w _ h3)).trans h3⟩
theorem CAt.nil (w : World) (oa : Option Addr) : CAt w oa [] := fun k x hk => by simp at hk

def okP (p : Int) : Bool := decide (1 ≤ p) && decide (p ≤ 8)
theorem isCount_any (p : Int) (w : World) :
    Calls Tryz.prog 108 #[.int .i64 p] w fun r w' => r = .returned (.bool (okP p)) ∧ w' = w := by
  by_cases h1 : 1 ≤ p
  · have e : okP p = decide (p ≤ 8) := by simp [okP, h1]
    rw [e]
    clear e
    go_enter Tryz.func108, Tryz.ntmps108
    go_wp2
    go_ret
    exact ⟨rfl, rfl⟩
  · have e : okP p = false := by simp [okP, h1]
    rw [e]
    clear e
    go_enter Tryz.func108, Tryz.ntmps108
    go_wp2
    go_ret
    exact ⟨rfl, rfl⟩
def upB (n m : Int) : Bool := decide (0 ≤ n) && decide (n ≤ m)
theorem upTo_any (n m : Int) (w : World) :
    Calls Tryz.prog 110 #[.int .i64 n, .int .i64 m] w fun r w' => r = .returned (.bool (upB n m)) ∧ w' = w := by
  by_cases h1 : 0 ≤ n
  · have e : upB n m = decide (n ≤ m) := by simp [upB, h1]
    rw [e]
    clear e
    go_enter Tryz.func110, Tryz.ntmps110
    go_wp2
    go_ret
    exact ⟨rfl, rfl⟩
  · have e : upB n m = false := by simp [upB, h1]
    rw [e]
    clear e
    go_enter Tryz.func110, Tryz.ntmps110
    go_wp2
    go_ret
    exact ⟨rfl, rfl⟩

/-- how far A and B go -/
def mA (k p : Int) : Int := if k = 1 then p - 1 else if k = 2 ∨ k = 3 ∨ k = 4 ∨ k = 5 ∨ k = 7 ∨ k = 8 then 7 else 0
def mB (k : Int) : Int := if k = 2 then 4 else if k = 3 then 99 else 0
theorem reach_1 (p : Int) (h1 : 1 ≤ p) (h2 : p ≤ 8) (w : World) :
    Calls Tryz.prog 109 #[.int .i64 1, .int .i64 p] w fun r w' => r = .returned (.tuple #[.int .i64 (mA 1 p), .int .i64 (mB 1)]) ∧ w' = w := by
  have h1' := h1
  have h2' := h2
  go_enter Tryz.func109, Tryz.ntmps109
  go_wp2
  go_ret2
  exact ⟨rfl, rfl⟩
theorem reach_2 (p : Int) (h1 : 1 ≤ p) (h2 : p ≤ 8) (w : World) :
    Calls Tryz.prog 109 #[.int .i64 2, .int .i64 p] w fun r w' => r = .returned (.tuple #[.int .i64 (mA 2 p), .int .i64 (mB 2)]) ∧ w' = w := by
  have h1' := h1
  have h2' := h2
  go_enter Tryz.func109, Tryz.ntmps109
  go_wp2
  go_ret2
  exact ⟨rfl, rfl⟩
theorem reach_3 (p : Int) (h1 : 1 ≤ p) (h2 : p ≤ 8) (w : World) :
    Calls Tryz.prog 109 #[.int .i64 3, .int .i64 p] w fun r w' => r = .returned (.tuple #[.int .i64 (mA 3 p), .int .i64 (mB 3)]) ∧ w' = w := by
  have h1' := h1
  have h2' := h2
  go_enter Tryz.func109, Tryz.ntmps109
  go_wp2
  go_ret2
  exact ⟨rfl, rfl⟩
theorem reach_4 (p : Int) (h1 : 1 ≤ p) (h2 : p ≤ 8) (w : World) :
    Calls Tryz.prog 109 #[.int .i64 4, .int .i64 p] w fun r w' => r = .returned (.tuple #[.int .i64 (mA 4 p), .int .i64 (mB 4)]) ∧ w' = w := by
  have h1' := h1
  have h2' := h2
  go_enter Tryz.func109, Tryz.ntmps109
  go_wp2
  go_ret2
  exact ⟨rfl, rfl⟩
theorem reach_5 (p : Int) (h1 : 1 ≤ p) (h2 : p ≤ 8) (w : World) :
    Calls Tryz.prog 109 #[.int .i64 5, .int .i64 p] w fun r w' => r = .returned (.tuple #[.int .i64 (mA 5 p), .int .i64 (mB 5)]) ∧ w' = w := by
  have h1' := h1
  have h2' := h2
  go_enter Tryz.func109, Tryz.ntmps109
  go_wp2
  go_ret2
  exact ⟨rfl, rfl⟩
theorem reach_6 (p : Int) (h1 : 1 ≤ p) (h2 : p ≤ 8) (w : World) :
    Calls Tryz.prog 109 #[.int .i64 6, .int .i64 p] w fun r w' => r = .returned (.tuple #[.int .i64 (mA 6 p), .int .i64 (mB 6)]) ∧ w' = w := by
  have h1' := h1
  have h2' := h2
  go_enter Tryz.func109, Tryz.ntmps109
  go_wp2
  go_ret2
  exact ⟨rfl, rfl⟩
theorem reach_7 (p : Int) (h1 : 1 ≤ p) (h2 : p ≤ 8) (w : World) :
    Calls Tryz.prog 109 #[.int .i64 7, .int .i64 p] w fun r w' => r = .returned (.tuple #[.int .i64 (mA 7 p), .int .i64 (mB 7)]) ∧ w' = w := by
  have h1' := h1
  have h2' := h2
  go_enter Tryz.func109, Tryz.ntmps109
  go_wp2
  go_ret2
  exact ⟨rfl, rfl⟩
theorem reach_8 (p : Int) (h1 : 1 ≤ p) (h2 : p ≤ 8) (w : World) :
    Calls Tryz.prog 109 #[.int .i64 8, .int .i64 p] w fun r w' => r = .returned (.tuple #[.int .i64 (mA 8 p), .int .i64 (mB 8)]) ∧ w' = w := by
  have h1' := h1
  have h2' := h2
  go_enter Tryz.func109, Tryz.ntmps109
  go_wp2
  go_ret2
  exact ⟨rfl, rfl⟩
theorem reach_9 (p : Int) (h1 : 1 ≤ p) (h2 : p ≤ 8) (w : World) :
    Calls Tryz.prog 109 #[.int .i64 9, .int .i64 p] w fun r w' => r = .returned (.tuple #[.int .i64 (mA 9 p), .int .i64 (mB 9)]) ∧ w' = w := by
  have h1' := h1
  have h2' := h2
  go_enter Tryz.func109, Tryz.ntmps109
  go_wp2
  go_ret2
  exact ⟨rfl, rfl⟩
theorem kind_cases {k : Int} (h1 : 1 ≤ k) (h2 : k ≤ 9) : k = 1 ∨ k = 2 ∨ k = 3 ∨ k = 4 ∨ k = 5 ∨ k = 6 ∨ k = 7 ∨ k = 8 ∨ k = 9 := by omega
theorem reach_any (k p : Int) (hk1 : 1 ≤ k) (hk2 : k ≤ 9) (h1 : 1 ≤ p) (h2 : p ≤ 8) (w : World) :
    Calls Tryz.prog 109 #[.int .i64 k, .int .i64 p] w fun r w' => r = .returned (.tuple #[.int .i64 (mA k p), .int .i64 (mB k)]) ∧ w' = w := by
  rcases kind_cases hk1 hk2 with rfl | rfl | rfl | rfl | rfl | rfl | rfl | rfl | rfl
  · exact reach_1 p h1 h2 w
  · exact reach_2 p h1 h2 w
  · exact reach_3 p h1 h2 w
  · exact reach_4 p h1 h2 w
  · exact reach_5 p h1 h2 w
  · exact reach_6 p h1 h2 w
  · exact reach_7 p h1 h2 w
  · exact reach_8 p h1 h2 w
  · exact reach_9 p h1 h2 w

/-- a case is right -/
def okC (x : Cs) : Bool := upB x.ch 7 && upB x.val (bif x.send then 99 else 0)
theorem isCase_any (x : Cs) (w : World) :
    Calls Tryz.prog 111 #[.agg #[.bool x.send, .int .i64 x.ch, .int .i64 x.val]] w fun r w' => r = .returned (.bool (okC x)) ∧ Below w.heap.size w w' := by
  obtain ⟨s, c, v⟩ := x
  cases s <;> cases h : upB c 7
  all_goals
    have HC := hide h
    clear h
    go_enter Tryz.func111, Tryz.ntmps111
    go_wp2_with fail
    refine (upTo_any _ _ _).mono ?_
    rw [HC.out]
    rintro r w1 ⟨rfl, rfl⟩
    go_wp2_with (go_at_call 110; refine (upTo_any _ _ _).mono ?_; rintro r w1 ⟨rfl, rfl⟩)
    go_ret
    exact ⟨by simp [okC, HC.out], below_alloc _ _⟩

/-- an operation as a value, its cases at oa -/
def opA (o : OpD) (oa : Option Addr) (c : Nat) : Array Value := #[.int .i64 o.kind, .int .i64 o.a, .int .i64 o.b, .slice oa o.cases.length c, .bool o.def_]
/-- what Check answers -/
def chk (o : OpD) (p : Int) : Int :=
  if (okP p && (decide (1 ≤ o.kind) && decide (o.kind ≤ 9))) = false then 1
  else if 4 < o.cases.length then 2
  else if (upB o.a (mA o.kind p) && upB o.b (mB o.kind)) = false then 4
  else if o.kind ≠ 6 ∧ (o.def_ || decide (0 < o.cases.length)) = true then 4
  else if o.cases.all okC then 0 else 4

set_option maxHeartbeats 800000 in
theorem check_arg (o : OpD) (oa : Option Addr) (c : Nat) (p : Int) (w : World) (h : (okP p && (decide (1 ≤ o.kind) && decide (o.kind ≤ 9))) = false) :
    Calls Tryz.prog 88 #[.agg #[.int .i64 o.kind, .int .i64 o.a, .int .i64 o.b, .slice oa o.cases.length c, .bool o.def_], .int .i64 p] w fun r w' => r = .returned (.int .i64 1) ∧ Below w.heap.size w w' := by
  obtain ⟨k, a, b, cs, d⟩ := o
  cases hp : okP p
  · have HP := hide hp
    clear h hp
    go_enter Tryz.func88, Tryz.ntmps88
    go_wp2_with fail
    refine (isCount_any _ _).mono ?_
    rw [HP.out]
    rintro r w1 ⟨rfl, rfl⟩
    go_wp2_with fail
    go_ret
    exact ⟨rfl, below_alloc _ _⟩
  · have HP := hide hp
    have hk : k < 1 ∨ 9 < k := by
      rw [hp] at h
      simp at h
      by_cases q : 1 ≤ k
      · have := h q; omega
      · omega
    clear h hp
    by_cases h1 : k < 1
    · have d1 : decide (k < 1) = true := by simpa using h1
      clear hk
      go_enter Tryz.func88, Tryz.ntmps88
      go_wp2_with fail
      refine (isCount_any _ _).mono ?_
      rw [HP.out]
      rintro r w1 ⟨rfl, rfl⟩
      go_wp2_with fail
      go_ret
      exact ⟨rfl, below_alloc _ _⟩
    · have d1 : decide (k < 1) = false := by simpa using h1
      have d2 : decide (9 < k) = true := by simp; omega
      clear hk
      go_enter Tryz.func88, Tryz.ntmps88
      go_wp2_with fail
      refine (isCount_any _ _).mono ?_
      rw [HP.out]
      rintro r w1 ⟨rfl, rfl⟩
      go_wp2_with fail
      go_ret
      exact ⟨rfl, below_alloc _ _⟩
end De
end Go.Proofs.YtddchcekljndmaaGreat
/- Package deed: Check, over this seat's program. -/
namespace Go.Proofs.YtddchcekljndmaaGreat
open Go.ChangeShapes Go.WideShapes Go.ChangeAt Go.RowKit
namespace De
open Ba Re

theorem all_no {l : List Cs} {j : Nat} {x : Cs} (hx : l[j]? = some x) (h : okC x = false) : l.all okC = false := by
  rw [List.all_eq_false]
  exact ⟨x, List.mem_of_getElem? hx, by simp [h]⟩
theorem all_yes {l : List Cs} (h : ∀ (q : Nat) (x : Cs), l[q]? = some x → okC x = true) : l.all okC = true := by
  rw [List.all_eq_true]
  intro x hx
  obtain ⟨q, hq⟩ := List.getElem?_of_mem hx
  exact h q x hq
theorem okP_iff (p : Int) : okP p = true ↔ 1 ≤ p ∧ p ≤ 8 := by simp [okP]

set_option maxHeartbeats 800000 in
theorem check_long (o : OpD) (oa : Option Addr) (c : Nat) (p : Int) (w : World) (hp : okP p = true) (h1 : 1 ≤ o.kind) (h2 : o.kind ≤ 9) (hl : 4 < o.cases.length) (hm : o.cases.length ≤ maxLen) :
    Calls Tryz.prog 88 #[.agg #[.int .i64 o.kind, .int .i64 o.a, .int .i64 o.b, .slice oa o.cases.length c, .bool o.def_], .int .i64 p] w fun r w' => r = .returned (.int .i64 2) ∧ Below w.heap.size w w' := by
  obtain ⟨k, a, b, cs, d⟩ := o
  unfold maxLen at hm
  simp only at h1 h2 hl hm ⊢
  have HP := hide hp
  have d1 : decide (k < 1) = false := by simp; omega
  have d2 : decide (9 < k) = false := by simp; omega
  have d3 : decide ((4 : Int) < (cs.length : Int)) = true := by simp; omega
  clear hp
  go_enter Tryz.func88, Tryz.ntmps88
  go_wp2_with fail
  refine (isCount_any _ _).mono ?_
  rw [HP.out]
  rintro r w1 ⟨rfl, rfl⟩
  go_wp2_with fail
  go_ret
  exact ⟨rfl, below_alloc _ _⟩

set_option maxHeartbeats 1600000 in
theorem check_main (o : OpD) (oa : Option Addr) (c : Nat) (p : Int) (w : World) (hp : okP p = true) (h1 : 1 ≤ o.kind) (h2 : o.kind ≤ 9) (hl : o.cases.length ≤ 4) (hA : CAt w oa o.cases) (x1 x2 x3 x4 : Bool) (hx1 : upB o.a (mA o.kind p) = x1) (hx2 : upB o.b (mB o.kind) = x2) (hx3 : (o.kind == 6) = x3) (hx4 : (o.def_ || decide (0 < o.cases.length)) = x4) :
    Calls Tryz.prog 88 #[.agg #[.int .i64 o.kind, .int .i64 o.a, .int .i64 o.b, .slice oa o.cases.length c, .bool o.def_], .int .i64 p] w fun r w' => r = .returned (.int .i64 (bif x1 && x2 && (x3 || !x4) && o.cases.all okC then 0 else 4)) ∧ Below w.heap.size w w' := by
  obtain ⟨k, a, b, cs, d⟩ := o
  simp only at h1 h2 hl hA hx1 hx2 hx3 hx4 ⊢
  have HP := hide hp
  have HP2 := hide ((okP_iff p).1 hp)
  have HA := hide hA
  have X1 := hide hx1
  have X2 := hide hx2
  have d1 : decide (k < 1) = false := by simp; omega
  have d2 : decide (9 < k) = false := by simp; omega
  have d3 : decide ((4 : Int) < (cs.length : Int)) = false := by simp; omega
  have d4 : (k != 6) = !x3 := by rw [← hx3]; rfl
  clear hp hA hx1 hx2
  cases x1
  · clear hx3 hx4 d4
    go_enter Tryz.func88, Tryz.ntmps88
    go_wp2_with fail
    refine (isCount_any _ _).mono ?_
    rw [HP.out]
    rintro r w1 ⟨rfl, rfl⟩
    go_wp2_with fail
    refine (reach_any k p h1 h2 HP2.out.1 HP2.out.2 _).mono ?_
    rintro r w1 ⟨rfl, rfl⟩
    go_wp2_with fail
    refine (upTo_any _ _ _).mono ?_
    rw [X1.out]
    rintro r w1 ⟨rfl, rfl⟩
    go_wp2_with fail
    go_ret
    exact ⟨rfl, below_alloc _ _⟩
  cases x2
  · clear hx3 hx4 d4
    go_enter Tryz.func88, Tryz.ntmps88
    go_wp2_with fail
    refine (isCount_any _ _).mono ?_
    rw [HP.out]
    rintro r w1 ⟨rfl, rfl⟩
    go_wp2_with fail
    refine (reach_any k p h1 h2 HP2.out.1 HP2.out.2 _).mono ?_
    rintro r w1 ⟨rfl, rfl⟩
    go_wp2_with fail
    refine (upTo_any _ _ _).mono ?_
    rw [X1.out]
    rintro r w1 ⟨rfl, rfl⟩
    go_wp2_with fail
    refine (upTo_any _ _ _).mono ?_
    rw [X2.out]
    rintro r w1 ⟨rfl, rfl⟩
    go_wp2_with fail
    go_ret
    exact ⟨rfl, below_alloc _ _⟩
  go_enter Tryz.func88, Tryz.ntmps88
  go_wp2_with fail
  refine (isCount_any _ _).mono ?_
  rw [HP.out]
  rintro r w1 ⟨rfl, rfl⟩
  go_wp2_with fail
  refine (reach_any k p h1 h2 HP2.out.1 HP2.out.2 _).mono ?_
  rintro r w1 ⟨rfl, rfl⟩
  go_wp2_with fail
  refine (upTo_any _ _ _).mono ?_
  rw [X1.out]
  rintro r w1 ⟨rfl, rfl⟩
  go_wp2_with fail
  refine (upTo_any _ _ _).mono ?_
  rw [X2.out]
  rintro r w1 ⟨rfl, rfl⟩
  cases x3
  · cases x4
    · have hd : d = false := by
        cases d
        · rfl
        · simp at hx4
      have hc0 : cs = [] := by
        rw [hd] at hx4
        simpa using hx4
      subst hd hc0
      clear hx4 hx3
      go_wp2_with fail
      refine wp_loop_rounds 1 ?_
      rw [rounds_succ]
      go_wp2
      go_ret
      exact ⟨rfl, below_alloc _ _⟩
    · clear hx3
      cases d
      · obtain ⟨x, t, rfl⟩ : ∃ x t, cs = x :: t := by
          cases cs with
          | nil => simp at hx4
          | cons x t => exact ⟨x, t, rfl⟩
        clear hx4
        go_wp2_with fail
        go_ret
        exact ⟨rfl, below_alloc _ _⟩
      · clear hx4
        go_wp2_with fail
        go_ret
        exact ⟨rfl, below_alloc _ _⟩
  · clear hx4 hx3
    have B0 := hide (below_alloc w (.cells #[.int .i64 k, .int .i64 a, .int .i64 b, .slice oa cs.length c, .bool d] 44))
    go_wp2_with fail
    generalize w.alloc (.cells #[.int .i64 k, .int .i64 a, .int .i64 b, .slice oa cs.length c, .bool d] 44) = W at B0 ⊢
    go_loopw [61] (fun i wr => ∃ j : Nat, j ≤ cs.length ∧ i = .int .i64 (j : Int) ∧ (∀ q x, q < j → cs[q]? = some x → okC x = true) ∧ Below w.heap.size w wr) (fun i _ => cs.length - (intOf i).toNat)
    case atStart => exact ⟨0, Nat.zero_le _, rfl, fun q x hq => absurd hq (Nat.not_lt_zero _), B0.out⟩
    case round =>
      clear B0
      obtain ⟨j, hj, rfl, hall, hb⟩ := hrel
      have HK := hide hall
      have HB := hide hb
      clear hall hb
      by_cases hlt : j < cs.length
      · have hlt' : decide ((j : Int) < (cs.length : Int)) = true := by simp; omega
        obtain ⟨x, hx⟩ : ∃ x, cs[j]? = some x := ⟨cs[j], by simp [hlt]⟩
        obtain ⟨b', off, rfl, q1, q2, q3⟩ := (HA.out.below HB.out) j x hx
        have HX := hide hx
        clear hx
        cases hok : okC x
        · have HO := hide hok
          clear hok
          go_wp2_with fail
          refine (isCase_any x _).mono ?_
          rw [HO.out]
          rintro r w2 ⟨rfl, b2⟩
          have B2 := hide (btr (btr HB.out (below_alloc _ _)) b2)
          clear b2
          go_wp2_with fail
          go_ret
          exact ⟨by rw [all_no HX.out HO.out]; simp, B2.out⟩
        · have HO := hide hok
          clear hok
          go_wp2_with fail
          refine (isCase_any x _).mono ?_
          rw [HO.out]
          rintro r w2 ⟨rfl, b2⟩
          have B2 := hide (btr (btr HB.out (below_alloc _ _)) b2)
          clear b2
          go_wp2_with fail
          go_roundw
          case rel => exact ⟨j + 1, by omega, by go_num, fun q y hq hy => by
              by_cases e : q = j
              · subst e
                have := HX.out
                rw [hy] at this
                simp at this
                subst this
                exact HO.out
              · exact HK.out q y (by omega) hy, B2.out⟩
          case measure => simp [intOf]; omega
      · have hlt' : decide ((j : Int) < (cs.length : Int)) = false := by simp; omega
        go_wp2_with fail
        go_ret
        exact ⟨by rw [all_yes (fun q x hq => HK.out q x (by have := (List.getElem?_eq_some_iff.1 hq).1; omega) hq)]; rfl, HB.out⟩

theorem check_any (o : OpD) (oa : Option Addr) (c : Nat) (p : Int) (w : World) (hA : CAt w oa o.cases) (hm : o.cases.length ≤ maxLen) :
    Calls Tryz.prog 88 #[.agg #[.int .i64 o.kind, .int .i64 o.a, .int .i64 o.b, .slice oa o.cases.length c, .bool o.def_], .int .i64 p] w fun r w' => r = .returned (.int .i64 (chk o p)) ∧ Below w.heap.size w w' := by
  unfold chk
  by_cases h1 : (okP p && (decide (1 ≤ o.kind) && decide (o.kind ≤ 9))) = false
  · rw [if_pos h1]
    exact check_arg o oa c p w h1
  · rw [if_neg h1]
    have h1' : okP p = true ∧ 1 ≤ o.kind ∧ o.kind ≤ 9 := by simpa using h1
    obtain ⟨hp, hk1, hk2⟩ := h1'
    by_cases h2 : 4 < o.cases.length
    · rw [if_pos h2]
      exact check_long o oa c p w hp hk1 hk2 h2 hm
    · rw [if_neg h2]
      refine (check_main o oa c p w hp hk1 hk2 (by omega) hA _ _ _ _ rfl rfl rfl rfl).mono ?_
      rintro r w' ⟨rfl, hb⟩
      refine ⟨?_, hb⟩
      cases x1 : upB o.a (mA o.kind p) && upB o.b (mB o.kind)
      · simp
      · rw [if_neg (by simp)]
        by_cases h6 : o.kind = 6
        · rw [if_neg (fun q => q.1 h6)]
          have : (o.kind == 6) = true := by simpa using h6
          rw [this]
          cases o.cases.all okC <;> simp
        · have : (o.kind == 6) = false := by simpa using h6
          rw [this]
          cases h4 : (o.def_ || decide (0 < o.cases.length))
          · rw [if_neg (fun q => by simp at q)]
            cases o.cases.all okC <;> simp
          · rw [if_pos ⟨h6, rfl⟩]
            simp
end De
end Go.Proofs.YtddchcekljndmaaGreat
/- Package deed: fields, bit, numbers, over this seat's program. -/
namespace Go.Proofs.YtddchcekljndmaaGreat
open Go.ChangeShapes Go.WideShapes Go.ChangeAt Go.RowKit
namespace De
open Ba Re

/-- how many of A and B a kind's bytes tell -/
def nf (k : Int) : Nat := if k = 2 ∨ k = 3 then 2 else if k = 1 ∨ k = 4 ∨ k = 5 ∨ k = 7 ∨ k = 8 then 1 else 0
def bt (b : Bool) : Int := bif b then 1 else 0
/-- a case's numbers -/
def cn (x : Cs) : List Int := [bt x.send, x.ch, x.val]
/-- the numbers of an operation's bytes -/
def nums (o : OpD) : List Int := o.kind :: [o.a, o.b].take (nf o.kind) ++ (bif o.kind == 6 then bt o.def_ :: (o.cases.length : Int) :: o.cases.flatMap cn else [])

theorem heap_lt {w : World} {b : Nat} {o : Obj} (h : w.heap[b]? = some o) : b < w.heap.size := by
  rcases Nat.lt_or_ge b w.heap.size with q | q
  · exact q
  · rw [Array.getElem?_eq_none q] at h; cases h
theorem own_ne {w : World} {base : Nat} {v : Value} {n g : Nat} {xs : List Value} {c : Array Value} {t : TypeId} {fr : Nat × Nat} (h : w.ownsRow base 3 1 v n xs) (hg : w.heap[g]? = some (.cells c t fr)) (ht : t ≠ 3) : some g ≠ v.ownBlock := by
  intro e
  rcases h.2 with ⟨rfl, _⟩ | ⟨b, cap, cur, rfl, _, hb, _⟩
  · simp [Value.ownBlock] at e
  · simp [Value.ownBlock] at e
    subst e
    rw [hg] at hb
    simp at hb
    exact ht hb.2.1
end De
end Go.Proofs.YtddchcekljndmaaGreat
/- Package deed: Encode, over this seat's program. -/
namespace Go.Proofs.YtddchcekljndmaaGreat
open Go.ChangeShapes Go.WideShapes Go.ChangeAt Go.RowKit
namespace De
open Ba Re

/-- the bytes of numbers, one behind the other -/
def pls (l : List Int) : List Nat := l.flatMap fun n => spl n.toNat
theorem upB_iff (n m : Int) : upB n m = true ↔ 0 ≤ n ∧ n ≤ m := by simp [upB]
end De
end Go.Proofs.YtddchcekljndmaaGreat
