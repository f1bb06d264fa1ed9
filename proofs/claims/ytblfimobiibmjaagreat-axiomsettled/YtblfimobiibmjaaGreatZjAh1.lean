import Derived.Test.YtblfimobiibmjaaGreatRows
import Derived.WalkKit
import Derived.ProofKit
import Derived.OpenShut
import Derived.WalkLawsBesides
import Derived.WalkSpells
import Derived.WalkMore
import Derived.ScopeJumps
import Derived.Below
import Derived.Laws.CopyOwn
import Derived.Laws.MakeOwn
import Derived.Deep.QuietTactic
import Derived.BigQuiet
import Derived.Deep.RegionHeld
import Derived.Laws.IdiomStrings
import Derived.Deep.AppendSrc
import Derived.Deep.Slices
import Derived.ShutString
import Derived.ChangeOld
import Derived.Deep.RegionHeld3
namespace Go.Proofs.YtblfimobiibmjaaGreat
open Go.ChangeShapes Go.WideShapes Go.ChangeAt Go.RowKit
namespace Ba
theorem hide {p : Prop} (h : p) : Hid p := h
def nth (l : List Int) (k : Nat) : Int := l.getD k 0
theorem nth_out (l : List Int) (k : Nat) (h : l.length ≤ k) : nth l k = 0 := by simp [nth, h]
theorem nth_lt (l : List Int) (k : Nat) (h : k < l.length) : nth l k = l[k] := by simp [nth, h]
def At (w : World) (oa : Option Addr) (l : List Int) : Prop :=
 ∀ k, k < l.length → ∃ b off, oa = some ⟨b, off, none⟩ ∧ w.cell? ⟨b, off + k, none⟩ = some (.int .i64 (nth l k))
theorem At.below {w w' : World} {oa : Option Addr} {l : List Int} (h : At w oa l) (hb : Below w.heap.size w w') : At w' oa l := by
 intro k hk
 obtain ⟨b, off, he, hc⟩ := h k hk
 exact ⟨b, off, he, (hb.cell (World.block_lt_of_cell? w _ hc)).trans hc⟩
theorem At.nil (w : World) (oa : Option Addr) : At w oa [] := fun _ hk => absurd hk (Nat.not_lt_zero _)
def row (l : List Int) : Array Value := (l.map (Value.int .i64)).toArray
theorem heap_new (w : World) (o : Obj) : (w.alloc o).heap[w.heap.size]? = some o := by
 show (w.heap.push o)[w.heap.size]? = some o
 simp
theorem cell_of {w : World} {b : Nat} {cur : Array Value} {t : TypeId} {fr : Nat × Nat} (h : w.heap[b]? = some (.cells cur t fr)) (k : Nat) : w.cell? ⟨b, k, none⟩ = cur[k]? := by
 simp [World.cell?, h]
theorem frozen_of {w : World} {b : Nat} {cur : Array Value} {t : TypeId} (h : w.heap[b]? = some (.cells cur t (0, 0))) (k : Nat) : w.frozen? ⟨b, k, none⟩ = false := by
 simp [World.frozen?, h]
theorem heap_setCell_same {w : World} {b i : Nat} {cur : Array Value} {t : TypeId} {fr : Nat × Nat} (h : w.heap[b]? = some (.cells cur t fr)) (v : Value) : (w.setCell ⟨b, i, none⟩ v).heap[b]? = some (.cells (cur.setIfInBounds i v) t fr) := by
 rw [setCell_eq_setRow w b i cur t fr v h]
 exact setRow_heap w b cur _ t fr h
theorem btr {a b c : World} (h : Below a.heap.size a b) (k : Below b.heap.size b c) : Below a.heap.size a c := h.trans (k.mono h.size)
theorem below_alloc (w : World) (o : Obj) : Below w.heap.size w (w.alloc o) := (Below.refl _ _).alloc (Nat.le_refl _) _
theorem bdrew (w : World) (q : Nat) : Below w.heap.size w (w.drewN q) := ⟨rfl, rfl, rfl, Nat.le_refl _, fun _ _ => rfl⟩
theorem bdrew1 (w : World) : Below w.heap.size w w.drew := ⟨rfl, rfl, rfl, Nat.le_refl _, fun _ _ => rfl⟩
theorem heap_below {w w' : World} {b : Nat} {o : Obj} (h : w.heap[b]? = some o) (hb : Below w.heap.size w w') : w'.heap[b]? = some o := by
 have hl : b < w.heap.size := by
  rcases Nat.lt_or_ge b w.heap.size with q | q
  ·exact q
  ·rw [Array.getElem?_eq_none q] at h; cases h
 exact (hb.block b hl).trans h
theorem results_row2 {fn : Func} {p u : Tmp} {ty : TypeId} (h : fn.results = #[.cell p ty, .tmp u]) (tmps : Array Value) (w : World) (g : Nat) (cs : Array Value) (v : Value)
 (hp : tmps.getD p undef = .pointer (some ⟨g, 0, none⟩)) (hv : tmps.getD u undef = v) (hl : (loadVar ty ⟨g, 0, none⟩).run Tryz.prog w = .ok (.agg cs) w) :
 (results fn tmps).run Tryz.prog w = .ok (.tuple #[.agg cs, v]) w := by
 subst hv
 have hp' : tmps[p]?.getD undef = .pointer (some ⟨g, 0, none⟩) := by simpa using hp
 simp [results, h, hp', asAddr, hl]
theorem ret_bool {a b : Bool} (h : a = b) : Ending.returned (.bool a) = .returned (.bool b) := by rw [h]
theorem ret_int {a b : Int} (h : a = b) : Ending.returned (.int .i64 a) = .returned (.int .i64 b) := by rw [h]
end Ba
end Go.Proofs.YtblfimobiibmjaaGreat
namespace Go.Proofs.YtblfimobiibmjaaGreat
open Go.ChangeShapes Go.WideShapes Go.ChangeAt Go.RowKit
namespace Re
open Ba
end Re
end Go.Proofs.YtblfimobiibmjaaGreat
namespace Go.Proofs.YtblfimobiibmjaaGreat
open Go.ChangeShapes Go.WideShapes Go.ChangeAt Go.RowKit
namespace Re
open Ba
def bs (L : List Nat) : ByteArray := ⟨(L.map fun b => UInt8.ofNat b).toArray⟩
end Re
end Go.Proofs.YtblfimobiibmjaaGreat
namespace Go.Proofs.YtblfimobiibmjaaGreat
open Go.ChangeShapes Go.WideShapes Go.ChangeAt Go.RowKit
namespace Re
open Ba
end Re
end Go.Proofs.YtblfimobiibmjaaGreat
namespace Go.Proofs.YtblfimobiibmjaaGreat
open Go.ChangeShapes Go.WideShapes Go.ChangeAt Go.RowKit
namespace Re
open Ba
def nbs (s : ByteArray) : List Nat := s.data.toList.map UInt8.toNat
def vl (L : List Nat) : Nat := L.foldl (fun a b => 256 * a + b) 0
theorem ix_str (s : ByteArray) (k b : Nat) (hk : (nbs s)[k]? = some b) (w : World) : (Instr.index 9 (.string s) (.int .i64 (k : Int))).run Tryz.prog w = .ok (.int .u8 (b : Int)) w := by
 have hl : k < s.size := by
  have := (List.getElem?_eq_some_iff.1 hk).1
  simpa [nbs] using this
 rw [run_index_string (P := Tryz.prog) w 9 s .i64 (k : Int) Tryz.underlying9, dif_pos ⟨by omega, by omega⟩]
 have e : s[k].toNat = b := by
  have := (List.getElem?_eq_some_iff.1 hk).2
  simp [nbs] at this
  exact this
 rw [← e]
 rfl
end Re
end Go.Proofs.YtblfimobiibmjaaGreat
namespace Go.Proofs.YtblfimobiibmjaaGreat
open Go.ChangeShapes Go.WideShapes Go.ChangeAt Go.RowKit
namespace Re
open Ba
theorem nbs_bs (L : List Nat) (h : ∀ b ∈ L, b < 256) : nbs (bs L) = L := by
 have e : L.map (UInt8.toNat ∘ fun b => UInt8.ofNat b) = L.map id := List.map_congr_left fun b hb => by
  have := h b hb
  simp
  omega
 simpa [nbs, bs] using e
end Re
end Go.Proofs.YtblfimobiibmjaaGreat
namespace Go.Proofs.YtblfimobiibmjaaGreat
open Go.ChangeShapes Go.WideShapes Go.ChangeAt Go.RowKit
namespace Re
open Ba
end Re
end Go.Proofs.YtblfimobiibmjaaGreat
namespace Go.Proofs.YtblfimobiibmjaaGreat
open Go.ChangeShapes Go.WideShapes Go.ChangeAt Go.RowKit
namespace Ba
theorem heap_lt {w : World} {b : Nat} {o : Obj} (h : w.heap[b]? = some o) : b < w.heap.size := by
 rcases Nat.lt_or_ge b w.heap.size with q | q
 ·exact q
 ·rw [Array.getElem?_eq_none q] at h; cases h
structure KB (R : Nat) (w w' : World) : Prop where
 os : w'.os = w.os
 tape : w'.tape = w.tape
 output : w'.output = w.output
 size : w.heap.size ≤ w'.heap.size
 block : ∀ k, k < w.heap.size → k ≠ R → w'.heap[k]? = w.heap[k]?
theorem KB.refl (R : Nat) (w : World) : KB R w w := ⟨rfl, rfl, rfl, Nat.le_refl _, fun _ _ _ => rfl⟩
theorem KB.trans {R : Nat} {a b c : World} (h : KB R a b) (k : KB R b c) : KB R a c :=
 ⟨k.os.trans h.os, k.tape.trans h.tape, k.output.trans h.output, Nat.le_trans h.size k.size, fun x hx hr => (k.block x (Nat.lt_of_lt_of_le hx h.size) hr).trans (h.block x hx hr)⟩
theorem KB.of {R : Nat} {a b : World} (h : Below a.heap.size a b) : KB R a b := ⟨h.os, h.tape, h.output, h.size, fun x hx _ => h.block x hx⟩
theorem KB.setCell {R : Nat} {a b : World} (h : KB R a b) (i : Nat) (v : Value) : KB R a (b.setCell ⟨R, i, none⟩ v) :=
 ⟨h.os, h.tape, h.output, by show _ ≤ (b.setCell _ _).heap.size; simp [World.setCell]; exact h.size, fun x hx hr => (Below.heap_setCell _ _ _ _ hr).trans (h.block x hx hr)⟩
theorem KB.below {R : Nat} {w a b : World} (h : Below w.heap.size w a) (k : KB R a b) (hR : w.heap.size ≤ R) : Below w.heap.size w b :=
 ⟨k.os.trans h.os, k.tape.trans h.tape, k.output.trans h.output, Nat.le_trans h.size k.size, fun x hx => (k.block x (Nat.lt_of_lt_of_le hx h.size) (by omega)).trans (h.block x hx)⟩
theorem KB.heap {R b : Nat} {w w' : World} {o : Obj} (k : KB R w w') (h : w.heap[b]? = some o) (hb : b ≠ R) : w'.heap[b]? = some o :=
 (k.block b (heap_lt h) hb).trans h
theorem KB.cell {R b i : Nat} {w w' : World} {v : Value} (k : KB R w w') (h : w.cell? ⟨b, i, none⟩ = some v) (hb : b ≠ R) : w'.cell? ⟨b, i, none⟩ = some v := by
 have := k.block b (World.block_lt_of_cell? w _ h) hb
 rw [← h]
 simp only [World.cell?, this]
theorem KB.at' {R : Nat} {w w' : World} {oa : Option Addr} {l : List Int} (k : KB R w w') (h : At w oa l) (hb : 0 < l.length → ∀ a, oa = some a → a.block ≠ R) : At w' oa l := by
 intro j hj
 obtain ⟨b, off, rfl, hc⟩ := h j hj
 exact ⟨b, off, rfl, k.cell hc (hb (by omega) _ rfl)⟩
end Ba
end Go.Proofs.YtblfimobiibmjaaGreat
namespace Go.Proofs.YtblfimobiibmjaaGreat
open Go.ChangeShapes Go.WideShapes Go.ChangeAt Go.RowKit
namespace Ba
theorem own_below {w w' : World} {base : Nat} {e : TypeId} {size : Nat} {v : Value} {n : Nat} {xs : List Value} (h : w.ownsRow base e size v n xs) (hb : Below w.heap.size w w') : w'.ownsRow base e size v n xs := by
 refine ⟨h.1, ?_⟩
 rcases h.2 with q | ⟨g, cap, cur, q1, q2, q3, q4⟩
 ·exact .inl q
 ·exact .inr ⟨g, cap, cur, q1, q2, heap_below q3 hb, q4⟩
theorem own_ty {w : World} {base size : Nat} {e : TypeId} {v : Value} {n g : Nat} {xs : List Value} {c : Array Value} {t : TypeId} {fr : Nat × Nat} (h : w.ownsRow base e size v n xs) (hg : w.heap[g]? = some (.cells c t fr)) (ht : t ≠ e) : some g ≠ v.ownBlock := by
 intro q
 rcases h.2 with ⟨rfl, _⟩ | ⟨b, cap, cur, rfl, _, hb, _⟩
 ·simp [Value.ownBlock] at q
 ·simp [Value.ownBlock] at q
  subst q
  rw [hg] at hb
  simp at hb
  exact ht hb.2.1
theorem one_of {cs : List Value} {j : Nat} {v : Value} (h : (cs.drop j).take 1 = [v]) : cs[j]? = some v := by
 have : ((cs.drop j).take 1)[0]? = some v := by rw [h]; rfl
 simpa using this
theorem cells_int : Tryz.prog.cellsOf 3 = 1 := by kernel_rfl
section
variable {H : Type} {enc : TypeId × Value → H} {w : World}
end
end Ba
end Go.Proofs.YtblfimobiibmjaaGreat
namespace Go.Proofs.YtblfimobiibmjaaGreat
open Go.ChangeShapes Go.WideShapes Go.ChangeAt Go.RowKit
namespace Ba
structure KF (F : Nat → Prop) (w w' : World) : Prop where
 os : w'.os = w.os
 tape : w'.tape = w.tape
 output : w'.output = w.output
 size : w.heap.size ≤ w'.heap.size
 block : ∀ k, k < w.heap.size → ¬ F k → w'.heap[k]? = w.heap[k]?
def Nw (F' F : Nat → Prop) (w : World) : Prop := ∀ k, F' k → F k ∨ w.heap.size ≤ k
def Sm (F : Nat → Prop) (w w' : World) : Prop := ∀ k, F k → w'.heap[k]? = w.heap[k]?
def Bd (F : Nat → Prop) (w : World) : Prop := ∀ k, F k → k < w.heap.size
theorem Nw.refl (F : Nat → Prop) (w : World) : Nw F F w := fun _ h => .inl h
theorem KF.refl (F : Nat → Prop) (w : World) : KF F w w := ⟨rfl, rfl, rfl, Nat.le_refl _, fun _ _ _ => rfl⟩
theorem KF.trans {F G : Nat → Prop} {a b c : World} (h : KF F a b) (k : KF G b c) (i : Nw G F a) : KF F a c :=
 ⟨k.os.trans h.os, k.tape.trans h.tape, k.output.trans h.output, Nat.le_trans h.size k.size, fun x hx hr => (k.block x (Nat.lt_of_lt_of_le hx h.size) (fun e => by
   rcases i x e with q | q
   ·exact hr q
   ·omega)).trans (h.block x hx hr)⟩
theorem KF.of {F : Nat → Prop} {a b : World} (h : Below a.heap.size a b) : KF F a b := ⟨h.os, h.tape, h.output, h.size, fun x hx _ => h.block x hx⟩
theorem KF.then {F : Nat → Prop} {a b c : World} (h : KF F a b) (k : Below b.heap.size b c) : KF F a c := h.trans (KF.of (F := F) k) (Nw.refl _ _)
theorem KF.set {F : Nat → Prop} {a b : World} {q : Nat} (h : KF F a b) (hq : F q) (i : Nat) (v : Value) : KF F a (b.setCell ⟨q, i, none⟩ v) :=
 ⟨h.os, h.tape, h.output, by show _ ≤ (b.setCell _ _).heap.size; simp [World.setCell]; exact h.size, fun x hx hr => (Below.heap_setCell _ _ _ _ (fun e => hr (by have e' : x = q := e; rw [e']; exact hq))).trans (h.block x hx hr)⟩
theorem KF.heap {F : Nat → Prop} {b : Nat} {w w' : World} {o : Obj} (k : KF F w w') (h : w.heap[b]? = some o) (hb : ¬ F b) : w'.heap[b]? = some o :=
 (k.block b (heap_lt h) hb).trans h
theorem Sm.below {F : Nat → Prop} {a b : World} (k : Below a.heap.size a b) (hF : Bd F a) : Sm F a b := fun x hx => k.block x (hF x hx)
theorem Sm.heap {F : Nat → Prop} {a b : World} (h : Sm F a b) {x : Nat} {o : Obj} (hx : F x) (ho : a.heap[x]? = some o) : b.heap[x]? = some o := (h x hx).trans ho
theorem Bd.sm {F : Nat → Prop} {a b : World} (h : Bd F a) (s : Sm F a b) : Bd F b := by
 intro x hx
 have h1 := h x hx
 have h2 := s x hx
 rw [Array.getElem?_eq_getElem h1] at h2
 exact heap_lt h2
theorem Bd.mono {F : Nat → Prop} {a b : World} (h : Bd F a) (s : a.heap.size ≤ b.heap.size) : Bd F b := fun x hx => Nat.lt_of_lt_of_le (h x hx) s
end Ba
end Go.Proofs.YtblfimobiibmjaaGreat
namespace Go.Proofs.YtblfimobiibmjaaGreat
open Go.ChangeShapes Go.WideShapes Go.ChangeAt Go.RowKit
namespace En
open Ba Re
structure Ev where
 k : Int
 g : Int
 c : Int
 a : Int
 v : Int
 m : Int
 s : Bool
 o : Bool
def evc (e : Ev) : Array Value := #[.int .i64 e.k, .int .i64 e.g, .int .i64 e.c, .int .i64 e.a, .int .i64 e.v, .int .i64 e.m, .bool e.s, .bool e.o]
def evv (e : Ev) : Value := .agg (evc e)
theorem size_ev : (Tryz.prog.info? 50).map (·.size) = some 8 := by kernel_rfl
theorem loadVar_ev {w : World} {b : Nat} {c : Array Value} {t : TypeId} (h : w.heap[b]? = some (.cells c t (0, 0))) (hc : c.size = 8) : (loadVar 50 ⟨b, 0, none⟩).run Tryz.prog w = .ok (.agg c) w :=
 run_loadVar_row w b t _ _ _ _ h Tryz.underlying50 rfl (by rw [size_ev, hc])
theorem size_sp : (Tryz.prog.info? 243).map (·.size) = some 2 := by kernel_rfl
theorem loadVar_sp {w : World} {b : Nat} {c : Array Value} {t : TypeId} (h : w.heap[b]? = some (.cells c t (0, 0))) (hc : c.size = 2) : (loadVar 243 ⟨b, 0, none⟩).run Tryz.prog w = .ok (.agg c) w :=
 run_loadVar_row w b t _ _ _ _ h Tryz.underlying243 rfl (by rw [size_sp, hc])
theorem results_row1 {fn : Func} {p : Tmp} {ty : TypeId} (h : fn.results = #[.cell p ty]) (tmps : Array Value) (w : World) (g : Nat) (cs : Array Value)
 (hp : tmps.getD p undef = .pointer (some ⟨g, 0, none⟩)) (hl : (loadVar ty ⟨g, 0, none⟩).run Tryz.prog w = .ok (.agg cs) w) :
 (results fn tmps).run Tryz.prog w = .ok (.agg cs) w := by
 have hp' : tmps[p]?.getD undef = .pointer (some ⟨g, 0, none⟩) := by simpa using hp
 simp [results, h, hp', asAddr, hl]
theorem heap_new2 (w : World) (a b : Obj) : ((w.alloc a).alloc b).heap[w.heap.size + 1]? = some b := by
 have := heap_new (w.alloc a) b
 rw [World.size_alloc] at this
 exact this
theorem isSelect_any (e : Ev) (w : World) :
 Calls Tryz.prog 182 #[evv e] w fun r w' => r = .returned (.bool (e.a != -1)) ∧ Below w.heap.size w w' := by
 unfold evv evc
 go_enter Tryz.func182, Tryz.ntmps182
 go_wp2_with fail
 go_ret
 exact ⟨rfl, below_alloc _ _⟩
def vm (e : Ev) : Int := if (e.s || e.o) = true then 99 else 0
def ml (e : Ev) : Int := if e.k = 7 then 0 else -1
def mh (e : Ev) : Int := if e.k = 7 then 511 else if (e.s || e.o) = true then 511 else -1
theorem values_any (e : Ev) (w : World) :
 Calls Tryz.prog 183 #[evv e] w fun r w' => r = .returned (.agg #[.int .i64 0, .int .i64 (vm e)]) ∧ Below w.heap.size w w' := by
 unfold evv evc vm
 obtain ⟨k, g, c, a, v, m, s, o⟩ := e
 simp only
 cases s
 ·cases o
  ·go_enter Tryz.func183, Tryz.ntmps183
   go_wp2_with fail
   exact bodyPost_ret (results_row1 Tryz.results183 _ _ _ _ rfl (loadVar_sp (heap_new2 _ _ _) rfl)) rfl ⟨rfl, btr (below_alloc _ _) (below_alloc _ _)⟩
  ·go_enter Tryz.func183, Tryz.ntmps183
   go_wp2_with fail
   exact bodyPost_ret (results_row1 Tryz.results183 _ _ _ _ rfl (loadVar_sp (heap_new2 _ _ _) rfl)) rfl ⟨rfl, btr (below_alloc _ _) (below_alloc _ _)⟩
 ·go_enter Tryz.func183, Tryz.ntmps183
  go_wp2_with fail
  exact bodyPost_ret (results_row1 Tryz.results183 _ _ _ _ rfl (loadVar_sp (heap_new2 _ _ _) rfl)) rfl ⟨rfl, btr (below_alloc _ _) (below_alloc _ _)⟩
theorem mates_any (e : Ev) (w : World) :
 Calls Tryz.prog 184 #[evv e] w fun r w' => r = .returned (.agg #[.int .i64 (ml e), .int .i64 (mh e)]) ∧ Below w.heap.size w w' := by
 unfold evv evc ml mh
 obtain ⟨k, g, c, a, v, m, s, o⟩ := e
 simp only
 by_cases hk : k = 7
 ·subst hk
  simp only [if_true]
  go_enter Tryz.func184, Tryz.ntmps184
  go_wp2_with fail
  exact bodyPost_ret (results_row1 Tryz.results184 _ _ _ _ rfl (loadVar_sp (heap_new2 _ _ _) rfl)) rfl ⟨rfl, btr (below_alloc _ _) (below_alloc _ _)⟩
 ·have hk' : (k == 7) = false := by simpa using hk
  simp only [if_neg hk]
  clear hk
  cases s
  ·cases o
   ·go_enter Tryz.func184, Tryz.ntmps184
    go_wp2_with fail
    exact bodyPost_ret (results_row1 Tryz.results184 _ _ _ _ rfl (loadVar_sp (heap_new2 _ _ _) rfl)) rfl ⟨rfl, btr (below_alloc _ _) (below_alloc _ _)⟩
   ·go_enter Tryz.func184, Tryz.ntmps184
    go_wp2_with fail
    exact bodyPost_ret (results_row1 Tryz.results184 _ _ _ _ rfl (loadVar_sp (heap_new2 _ _ _) rfl)) rfl ⟨rfl, btr (below_alloc _ _) (below_alloc _ _)⟩
  ·go_enter Tryz.func184, Tryz.ntmps184
   go_wp2_with fail
   exact bodyPost_ret (results_row1 Tryz.results184 _ _ _ _ rfl (loadVar_sp (heap_new2 _ _ _) rfl)) rfl ⟨rfl, btr (below_alloc _ _) (below_alloc _ _)⟩
def inS (n lo hi : Int) : Bool := decide (lo ≤ n) && decide (n ≤ hi)
theorem has_any (lo hi n : Int) (w : World) :
 Calls Tryz.prog 176 #[.agg #[.int .i64 lo, .int .i64 hi], .int .i64 n] w fun r w' => r = .returned (.bool (inS n lo hi)) ∧ Below w.heap.size w w' := by
 unfold inS
 cases h1 : decide (lo ≤ n)
 ·go_enter Tryz.func176, Tryz.ntmps176
  go_wp2_with fail
  go_ret
  exact ⟨rfl, below_alloc _ _⟩
 ·go_enter Tryz.func176, Tryz.ntmps176
  go_wp2_with fail
  go_ret
  exact ⟨ret_bool (by simp), below_alloc _ _⟩
def ff (e : Ev) : Bool :=
 if e.k = 3 then e.s && !e.o else if e.k = 4 then !e.s else if e.k = 6 then !e.o && !(e.s && (e.a != -1)) else if e.k = 7 then e.o || !e.s else !e.s && !e.o
set_option maxHeartbeats 1600000 in
theorem flagsFit_any (e : Ev) (w : World) :
 Calls Tryz.prog 173 #[evv e] w fun r w' => r = .returned (.bool (ff e)) ∧ Below w.heap.size w w' := by
 have IS := hide fun u => isSelect_any e u
 unfold evv evc at IS ⊢
 unfold ff
 obtain ⟨k, g, c, a, v, m, s, o⟩ := e
 simp only at IS ⊢
 have Q := hide (heap_new w (.cells #[.int .i64 k, .int .i64 g, .int .i64 c, .int .i64 a, .int .i64 v, .int .i64 m, .bool s, .bool o] 50))
 have BA := hide (below_alloc w (.cells #[.int .i64 k, .int .i64 g, .int .i64 c, .int .i64 a, .int .i64 v, .int .i64 m, .bool s, .bool o] 50))
 by_cases h3 : k = 3
 ·subst h3
  simp only [if_true]
  cases s
  ·go_enter Tryz.func173, Tryz.ntmps173
   go_wp2_with fail
   go_ret
   exact ⟨rfl, BA.out⟩
  ·go_enter Tryz.func173, Tryz.ntmps173
   go_wp2_with fail
   go_ret
   exact ⟨ret_bool (by simp), BA.out⟩
 simp only [if_neg h3]
 have d3 : (k == 3) = false := by simpa using h3
 by_cases h4 : k = 4
 ·subst h4
  simp only [if_true]
  go_enter Tryz.func173, Tryz.ntmps173
  go_wp2_with fail
  go_ret
  exact ⟨rfl, BA.out⟩
 simp only [if_neg h4]
 have d4 : (k == 4) = false := by simpa using h4
 by_cases h6 : k = 6
 ·subst h6
  simp only [if_true]
  cases o
  ·cases s
   ·go_enter Tryz.func173, Tryz.ntmps173
    go_wp2_with fail
    go_ret
    exact ⟨rfl, BA.out⟩
   ·go_enter Tryz.func173, Tryz.ntmps173
    go_wp2_with fail
    refine (IS.out _).mono ?_
    rintro r w1 ⟨rfl, b1⟩
    have B1 := hide (btr BA.out b1)
    clear b1
    go_wp2_with fail
    go_ret
    exact ⟨ret_bool (by simp), B1.out⟩
  ·go_enter Tryz.func173, Tryz.ntmps173
   go_wp2_with fail
   go_ret
   exact ⟨rfl, BA.out⟩
 simp only [if_neg h6]
 have d6 : (k == 6) = false := by simpa using h6
 by_cases h7 : k = 7
 ·subst h7
  simp only [if_true]
  cases o
  ·go_enter Tryz.func173, Tryz.ntmps173
   go_wp2_with fail
   go_ret
   exact ⟨ret_bool (by simp), BA.out⟩
  ·go_enter Tryz.func173, Tryz.ntmps173
   go_wp2_with fail
   go_ret
   exact ⟨rfl, BA.out⟩
 simp only [if_neg h7]
 have d7 : (k == 7) = false := by simpa using h7
 clear h3 h4 h6 h7
 cases s
 ·go_enter Tryz.func173, Tryz.ntmps173
  go_wp2_with fail
  go_ret
  exact ⟨ret_bool (by simp), BA.out⟩
 ·go_enter Tryz.func173, Tryz.ntmps173
  go_wp2_with fail
  go_ret
  exact ⟨rfl, BA.out⟩
theorem size_a5 : (Tryz.prog.info? 246).map (·.size) = some 5 := by kernel_rfl
theorem loadVar_a5 {w : World} {b : Nat} {c : Array Value} {t : TypeId} (h : w.heap[b]? = some (.cells c t (0, 0))) (hc : c.size = 5) : (loadVar 246 ⟨b, 0, none⟩).run Tryz.prog w = .ok (.agg c) w :=
 run_loadVar_row w b t _ _ _ _ h Tryz.underlying246 rfl (by rw [size_a5, hc])
def EAt (w : World) (B : Nat) (e : Ev) : Prop := w.heap[B]? = some (.cells (evc e) 50 (0, 0))
theorem fields_any (B : Nat) (e : Ev) (w : World) (h : EAt w B e) :
 Calls Tryz.prog 175 #[.pointer (some ⟨B, 0, none⟩)] w fun r w' => r = .returned (.agg #[.pointer (some ⟨B, 1, none⟩), .pointer (some ⟨B, 2, none⟩), .pointer (some ⟨B, 3, none⟩), .pointer (some ⟨B, 4, none⟩), .pointer (some ⟨B, 5, none⟩)]) ∧ Below w.heap.size w w' := by
 have y0 : w.cell? ⟨B, 0, none⟩ = some (.int .i64 e.k) := cell_of h 0
 have hB := Ba.heap_lt h
 clear h
 go_enter Tryz.func175, Tryz.ntmps175
 go_wp2_with fail
 go_region
 all_goals
  go_wp2_with fail
  exact bodyPost_ret (results_row1 Tryz.results175 _ _ _ _ rfl (loadVar_a5 (heap_below (heap_new _ _) (bdrew1 _)) rfl)) rfl ⟨rfl, btr (below_alloc _ _) (bdrew1 _)⟩
end En
end Go.Proofs.YtblfimobiibmjaaGreat
namespace Go.Proofs.YtblfimobiibmjaaGreat
open Go.ChangeShapes Go.WideShapes Go.ChangeAt Go.RowKit
namespace En
open Ba Re
def spn (e : Ev) : List Int :=
 if e.k = 1 then [0, 511, -1, -1, -1, -1, 0, 7, 0, 511]
 else if e.k = 2 then [0, 511, 0, 511, -1, -1, 0, 4, -1, -1]
 else if e.k = 3 ∨ e.k = 4 ∨ e.k = 7 then [0, 511, 0, 511, -1, 3, 0, vm e, ml e, mh e]
 else if e.k = 5 then [0, 511, 0, 511, -1, -1, -1, -1, -1, -1]
 else if e.k = 6 then if (e.a != -1) = true then [0, 511, -1, -1, -1, 4, 0, vm e, -1, -1] else [0, 511, -1, 511, -1, 4, 0, vm e, -1, -1]
 else if e.k = 9 ∨ e.k = 10 then [0, 511, -1, -1, -1, -1, 0, 7, -1, -1]
 else if e.k = 13 then [-1, -1, -1, -1, -1, -1, -1, -1, -1, -1]
 else [0, 511, -1, -1, -1, -1, -1, -1, -1, -1]
theorem size_a10 : (Tryz.prog.info? 244).map (·.size) = some 10 := by kernel_rfl
theorem loadVar_a10 {w : World} {b : Nat} {c : Array Value} {t : TypeId} (h : w.heap[b]? = some (.cells c t (0, 0))) (hc : c.size = 10) : (loadVar 244 ⟨b, 0, none⟩).run Tryz.prog w = .ok (.agg c) w :=
 run_loadVar_row w b t _ _ _ _ h Tryz.underlying244 rfl (by rw [size_a10, hc])
theorem in5 (w : World) (a b c d e : Obj) : (((((w.alloc a).alloc b).alloc c).alloc d).alloc e).heap[w.heap.size + 1]? = some b := heap_below (heap_new2 w a b) (btr (btr (below_alloc _ _) (below_alloc _ _)) (below_alloc _ _))
theorem below5 (w : World) (a b c d e : Obj) : Below w.heap.size w (((((w.alloc a).alloc b).alloc c).alloc d).alloc e) := btr (btr (btr (btr (below_alloc _ _) (below_alloc _ _)) (below_alloc _ _)) (below_alloc _ _)) (below_alloc _ _)
set_option maxRecDepth 100000 in
set_option maxHeartbeats 1600000 in
theorem spans1 (e : Ev) (w : World) (hk : e.k = 1) :
 Calls Tryz.prog 174 #[evv e] w fun r w' => r = .returned (.agg (row (spn e))) ∧ Below w.heap.size w w' := by
 have HS : Hid (spn e = [0, 511, -1, -1, -1, -1, 0, 7, 0, 511]) := by show _ = _; unfold spn; simp [hk]
 obtain ⟨k, g, c, a, v, m, s, o⟩ := e
 simp only at hk
 subst hk
 unfold evv evc
 go_enter Tryz.func174, Tryz.ntmps174
 go_wp2_with fail
 go_region
 all_goals
  go_wp2_with fail
  exact bodyPost_ret (results_row1 Tryz.results174 _ _ _ _ rfl (loadVar_a10 (heap_below (in5 _ _ _ _ _ _) (bdrew1 _)) rfl)) rfl ⟨by rw [HS.out]; rfl, btr (below5 _ _ _ _ _ _) (bdrew1 _)⟩
set_option maxRecDepth 100000 in
set_option maxHeartbeats 1600000 in
theorem spans2 (e : Ev) (w : World) (hk : e.k = 2) :
 Calls Tryz.prog 174 #[evv e] w fun r w' => r = .returned (.agg (row (spn e))) ∧ Below w.heap.size w w' := by
 have HS : Hid (spn e = [0, 511, 0, 511, -1, -1, 0, 4, -1, -1]) := by show _ = _; unfold spn; simp [hk]
 obtain ⟨k, g, c, a, v, m, s, o⟩ := e
 simp only at hk
 subst hk
 unfold evv evc
 go_enter Tryz.func174, Tryz.ntmps174
 go_wp2_with fail
 exact bodyPost_ret (results_row1 Tryz.results174 _ _ _ _ rfl (loadVar_a10 (in5 _ _ _ _ _ _) rfl)) rfl ⟨by rw [HS.out]; rfl, below5 _ _ _ _ _ _⟩
set_option maxRecDepth 100000 in
set_option maxHeartbeats 1600000 in
theorem spans5 (e : Ev) (w : World) (hk : e.k = 5) :
 Calls Tryz.prog 174 #[evv e] w fun r w' => r = .returned (.agg (row (spn e))) ∧ Below w.heap.size w w' := by
 have HS : Hid (spn e = [0, 511, 0, 511, -1, -1, -1, -1, -1, -1]) := by show _ = _; unfold spn; simp [hk]
 obtain ⟨k, g, c, a, v, m, s, o⟩ := e
 simp only at hk
 subst hk
 unfold evv evc
 go_enter Tryz.func174, Tryz.ntmps174
 go_wp2_with fail
 exact bodyPost_ret (results_row1 Tryz.results174 _ _ _ _ rfl (loadVar_a10 (in5 _ _ _ _ _ _) rfl)) rfl ⟨by rw [HS.out]; rfl, below5 _ _ _ _ _ _⟩
set_option maxRecDepth 100000 in
set_option maxHeartbeats 1600000 in
theorem spans8 (e : Ev) (w : World) (hk : e.k = 8) :
 Calls Tryz.prog 174 #[evv e] w fun r w' => r = .returned (.agg (row (spn e))) ∧ Below w.heap.size w w' := by
 have HS : Hid (spn e = [0, 511, -1, -1, -1, -1, -1, -1, -1, -1]) := by show _ = _; unfold spn; simp [hk]
 obtain ⟨k, g, c, a, v, m, s, o⟩ := e
 simp only at hk
 subst hk
 unfold evv evc
 go_enter Tryz.func174, Tryz.ntmps174
 go_wp2_with fail
 exact bodyPost_ret (results_row1 Tryz.results174 _ _ _ _ rfl (loadVar_a10 (in5 _ _ _ _ _ _) rfl)) rfl ⟨by rw [HS.out]; rfl, below5 _ _ _ _ _ _⟩
set_option maxRecDepth 100000 in
set_option maxHeartbeats 1600000 in
theorem spans11 (e : Ev) (w : World) (hk : e.k = 11) :
 Calls Tryz.prog 174 #[evv e] w fun r w' => r = .returned (.agg (row (spn e))) ∧ Below w.heap.size w w' := by
 have HS : Hid (spn e = [0, 511, -1, -1, -1, -1, -1, -1, -1, -1]) := by show _ = _; unfold spn; simp [hk]
 obtain ⟨k, g, c, a, v, m, s, o⟩ := e
 simp only at hk
 subst hk
 unfold evv evc
 go_enter Tryz.func174, Tryz.ntmps174
 go_wp2_with fail
 exact bodyPost_ret (results_row1 Tryz.results174 _ _ _ _ rfl (loadVar_a10 (in5 _ _ _ _ _ _) rfl)) rfl ⟨by rw [HS.out]; rfl, below5 _ _ _ _ _ _⟩
set_option maxRecDepth 100000 in
set_option maxHeartbeats 1600000 in
theorem spans12 (e : Ev) (w : World) (hk : e.k = 12) :
 Calls Tryz.prog 174 #[evv e] w fun r w' => r = .returned (.agg (row (spn e))) ∧ Below w.heap.size w w' := by
 have HS : Hid (spn e = [0, 511, -1, -1, -1, -1, -1, -1, -1, -1]) := by show _ = _; unfold spn; simp [hk]
 obtain ⟨k, g, c, a, v, m, s, o⟩ := e
 simp only at hk
 subst hk
 unfold evv evc
 go_enter Tryz.func174, Tryz.ntmps174
 go_wp2_with fail
 exact bodyPost_ret (results_row1 Tryz.results174 _ _ _ _ rfl (loadVar_a10 (in5 _ _ _ _ _ _) rfl)) rfl ⟨by rw [HS.out]; rfl, below5 _ _ _ _ _ _⟩
set_option maxRecDepth 100000 in
set_option maxHeartbeats 1600000 in
theorem spans9 (e : Ev) (w : World) (hk : e.k = 9) :
 Calls Tryz.prog 174 #[evv e] w fun r w' => r = .returned (.agg (row (spn e))) ∧ Below w.heap.size w w' := by
 have HS : Hid (spn e = [0, 511, -1, -1, -1, -1, 0, 7, -1, -1]) := by show _ = _; unfold spn; simp [hk]
 obtain ⟨k, g, c, a, v, m, s, o⟩ := e
 simp only at hk
 subst hk
 unfold evv evc
 go_enter Tryz.func174, Tryz.ntmps174
 go_wp2_with fail
 exact bodyPost_ret (results_row1 Tryz.results174 _ _ _ _ rfl (loadVar_a10 (in5 _ _ _ _ _ _) rfl)) rfl ⟨by rw [HS.out]; rfl, below5 _ _ _ _ _ _⟩
set_option maxRecDepth 100000 in
set_option maxHeartbeats 1600000 in
theorem spans10 (e : Ev) (w : World) (hk : e.k = 10) :
 Calls Tryz.prog 174 #[evv e] w fun r w' => r = .returned (.agg (row (spn e))) ∧ Below w.heap.size w w' := by
 have HS : Hid (spn e = [0, 511, -1, -1, -1, -1, 0, 7, -1, -1]) := by show _ = _; unfold spn; simp [hk]
 obtain ⟨k, g, c, a, v, m, s, o⟩ := e
 simp only at hk
 subst hk
 unfold evv evc
 go_enter Tryz.func174, Tryz.ntmps174
 go_wp2_with fail
 exact bodyPost_ret (results_row1 Tryz.results174 _ _ _ _ rfl (loadVar_a10 (in5 _ _ _ _ _ _) rfl)) rfl ⟨by rw [HS.out]; rfl, below5 _ _ _ _ _ _⟩
set_option maxRecDepth 100000 in
set_option maxHeartbeats 1600000 in
theorem spans13 (e : Ev) (w : World) (hk : e.k = 13) :
 Calls Tryz.prog 174 #[evv e] w fun r w' => r = .returned (.agg (row (spn e))) ∧ Below w.heap.size w w' := by
 have HS : Hid (spn e = [-1, -1, -1, -1, -1, -1, -1, -1, -1, -1]) := by show _ = _; unfold spn; simp [hk]
 obtain ⟨k, g, c, a, v, m, s, o⟩ := e
 simp only at hk
 subst hk
 unfold evv evc
 go_enter Tryz.func174, Tryz.ntmps174
 go_wp2_with fail
 exact bodyPost_ret (results_row1 Tryz.results174 _ _ _ _ rfl (loadVar_a10 (in5 _ _ _ _ _ _) rfl)) rfl ⟨by rw [HS.out]; rfl, below5 _ _ _ _ _ _⟩
end En
end Go.Proofs.YtblfimobiibmjaaGreat
namespace Go.Proofs.YtblfimobiibmjaaGreat
open Go.ChangeShapes Go.WideShapes Go.ChangeAt Go.RowKit
namespace En
open Ba Re
theorem cellB {w w' : World} {b i : Nat} {v : Value} (h : w.cell? ⟨b, i, none⟩ = some v) (hb : Below w.heap.size w w') : w'.cell? ⟨b, i, none⟩ = some v := (hb.cell (World.block_lt_of_cell? w _ h)).trans h
theorem cellS {w : World} {b i R j : Nat} {v u : Value} (h : w.cell? ⟨b, i, none⟩ = some v) (hb : b ≠ R) : (w.setCell ⟨R, j, none⟩ u).cell? ⟨b, i, none⟩ = some v := ((KB.refl R w).setCell j u).cell h hb
structure SpW (w u : World) (N : Nat) (e : Ev) (r : List Int) : Prop where
 ev : u.heap[N]? = some (.cells (evc e) 50 (0, 0))
 rs : u.heap[N + 1]? = some (.cells #[.int .i64 0, .int .i64 0, .int .i64 0, .int .i64 0, .int .i64 0, .int .i64 0, .int .i64 0, .int .i64 0, .int .i64 0, .int .i64 0] 244 (0, 0))
 no : u.heap[N + 1 + 1]? = some (.cells #[.int .i64 (-1), .int .i64 (-1)] 243 (0, 0))
 nu : u.heap[N + 1 + 1 + 1]? = some (.cells #[.int .i64 0, .int .i64 511] 243 (0, 0))
 rw : u.heap[N + 1 + 1 + 1 + 1]? = some (.cells (row r) 244 (0, 0))
 ln : r.length = 10
 b : Below N w u
theorem SpW.below {w u v : World} {N : Nat} {e : Ev} {r : List Int} (h : SpW w u N e r) (hb : Below u.heap.size u v) : SpW w v N e r :=
 ⟨heap_below h.ev hb, heap_below h.rs hb, heap_below h.no hb, heap_below h.nu hb, heap_below h.rw hb, h.ln, h.b.trans (hb.mono (by have := Ba.heap_lt h.ev; omega))⟩
theorem row_set (m : List Int) (k : Nat) (x : Int) : (row m).setIfInBounds k (.int .i64 x) = row (m.set k x) := by
 apply Array.ext
 ·simp [row]
 ·intro j h1 h2
  simp [row, List.getElem_set]
theorem SpW.set {w u : World} {N : Nat} {e : Ev} {r : List Int} (h : SpW w u N e r) (i : Nat) (x : Int) : SpW w (u.setCell ⟨N + 1 + 1 + 1 + 1, i, none⟩ (.int .i64 x)) N e (r.set i x) := by
 have K := (KB.refl (N + 1 + 1 + 1 + 1) u).setCell i (.int .i64 x)
 exact ⟨K.heap h.ev (by omega), K.heap h.rs (by omega), K.heap h.no (by omega), K.heap h.nu (by omega), (Ba.heap_setCell_same h.rw _).trans (by rw [row_set]), by rw [List.length_set]; exact h.ln, h.b.setCell (p := ⟨N + 1 + 1 + 1 + 1, i, none⟩) (by show N ≤ N + 1 + 1 + 1 + 1; omega) _⟩
theorem SpW.start (w : World) (e : Ev) : SpW w (((((w.alloc (.cells (evc e) 50)).alloc (.cells #[.int .i64 0, .int .i64 0, .int .i64 0, .int .i64 0, .int .i64 0, .int .i64 0, .int .i64 0, .int .i64 0, .int .i64 0, .int .i64 0] 244)).alloc (.cells #[.int .i64 (-1), .int .i64 (-1)] 243)).alloc (.cells #[.int .i64 0, .int .i64 511] 243)).alloc (.cells (row [0, 511, -1, -1, -1, -1, -1, -1, -1, -1]) 244)) w.heap.size e [0, 511, -1, -1, -1, -1, -1, -1, -1, -1] := by
 have s1 := World.size_alloc w (.cells (evc e) 50)
 have s2 := World.size_alloc (w.alloc (.cells (evc e) 50)) (.cells #[.int .i64 0, .int .i64 0, .int .i64 0, .int .i64 0, .int .i64 0, .int .i64 0, .int .i64 0, .int .i64 0, .int .i64 0, .int .i64 0] 244)
 refine ⟨heap_below (heap_new _ _) (btr (btr (btr (below_alloc _ _) (below_alloc _ _)) (below_alloc _ _)) (below_alloc _ _)), in5 _ _ _ _ _ _, ?_, ?_, ?_, rfl, below5 _ _ _ _ _ _⟩
 ·have q := heap_new2 (w.alloc (.cells (evc e) 50)) (.cells #[.int .i64 0, .int .i64 0, .int .i64 0, .int .i64 0, .int .i64 0, .int .i64 0, .int .i64 0, .int .i64 0, .int .i64 0, .int .i64 0] 244) (.cells #[.int .i64 (-1), .int .i64 (-1)] 243)
  rw [s1] at q
  exact heap_below q (btr (below_alloc _ _) (below_alloc _ _))
 ·have q := heap_new2 ((w.alloc (.cells (evc e) 50)).alloc (.cells #[.int .i64 0, .int .i64 0, .int .i64 0, .int .i64 0, .int .i64 0, .int .i64 0, .int .i64 0, .int .i64 0, .int .i64 0, .int .i64 0] 244)) (.cells #[.int .i64 (-1), .int .i64 (-1)] 243) (.cells #[.int .i64 0, .int .i64 511] 243)
  rw [s2, s1] at q
  exact heap_below q (below_alloc _ _)
 ·have q := heap_new2 (((w.alloc (.cells (evc e) 50)).alloc (.cells #[.int .i64 0, .int .i64 0, .int .i64 0, .int .i64 0, .int .i64 0, .int .i64 0, .int .i64 0, .int .i64 0, .int .i64 0, .int .i64 0] 244)).alloc (.cells #[.int .i64 (-1), .int .i64 (-1)] 243)) (.cells #[.int .i64 0, .int .i64 511] 243) (.cells (row [0, 511, -1, -1, -1, -1, -1, -1, -1, -1]) 244)
  rw [World.size_alloc, s2, s1] at q
  exact q
theorem ten_set {w : World} {b : Nat} {z : List Int} {t : TypeId} (hz : z.length = 10) (h : w.heap[b]? = some (.cells (row z) t (0, 0))) (x0 x1 x2 x3 x4 x5 x6 x7 x8 x9 : Int) : (((((((((((w.setCell ⟨b, 0, none⟩ ((.int .i64 x0))).setCell ⟨b, 1, none⟩ ((.int .i64 x1))).setCell ⟨b, 2, none⟩ ((.int .i64 x2))).setCell ⟨b, 3, none⟩ ((.int .i64 x3))).setCell ⟨b, 4, none⟩ ((.int .i64 x4))).setCell ⟨b, 5, none⟩ ((.int .i64 x5))).setCell ⟨b, 6, none⟩ ((.int .i64 x6))).setCell ⟨b, 7, none⟩ ((.int .i64 x7))).setCell ⟨b, 8, none⟩ ((.int .i64 x8))).setCell ⟨b, 9, none⟩ ((.int .i64 x9)))).heap[b]? = some (.cells (row [x0, x1, x2, x3, x4, x5, x6, x7, x8, x9]) t (0, 0)) := by
 have q := (Ba.heap_setCell_same (i := 9) (Ba.heap_setCell_same (i := 8) (Ba.heap_setCell_same (i := 7) (Ba.heap_setCell_same (i := 6) (Ba.heap_setCell_same (i := 5) (Ba.heap_setCell_same (i := 4) (Ba.heap_setCell_same (i := 3) (Ba.heap_setCell_same (i := 2) (Ba.heap_setCell_same (i := 1) (Ba.heap_setCell_same (i := 0) h (.int .i64 x0)) (.int .i64 x1)) (.int .i64 x2)) (.int .i64 x3)) (.int .i64 x4)) (.int .i64 x5)) (.int .i64 x6)) (.int .i64 x7)) (.int .i64 x8)) (.int .i64 x9))
 simp only [row_set] at q
 rw [q]
 match z, hz with
 | [_, _, _, _, _, _, _, _, _, _], _ => rfl
theorem ten_below {n : Nat} {w v : World} {b : Nat} (h : Below n w v) (hb : n ≤ b) (u0 u1 u2 u3 u4 u5 u6 u7 u8 u9 : Value) : Below n w (((((((((((v.setCell ⟨b, 0, none⟩ (u0)).setCell ⟨b, 1, none⟩ (u1)).setCell ⟨b, 2, none⟩ (u2)).setCell ⟨b, 3, none⟩ (u3)).setCell ⟨b, 4, none⟩ (u4)).setCell ⟨b, 5, none⟩ (u5)).setCell ⟨b, 6, none⟩ (u6)).setCell ⟨b, 7, none⟩ (u7)).setCell ⟨b, 8, none⟩ (u8)).setCell ⟨b, 9, none⟩ (u9))) :=
 ((((((((((h.setCell (p := ⟨b, 0, none⟩) hb u0).setCell (p := ⟨b, 1, none⟩) hb u1).setCell (p := ⟨b, 2, none⟩) hb u2).setCell (p := ⟨b, 3, none⟩) hb u3).setCell (p := ⟨b, 4, none⟩) hb u4).setCell (p := ⟨b, 5, none⟩) hb u5).setCell (p := ⟨b, 6, none⟩) hb u6).setCell (p := ⟨b, 7, none⟩) hb u7).setCell (p := ⟨b, 8, none⟩) hb u8).setCell (p := ⟨b, 9, none⟩) hb u9)
set_option maxRecDepth 100000 in
set_option maxHeartbeats 6400000 in
theorem spans3 (e : Ev) (w : World) (hk : e.k = 3) :
 Calls Tryz.prog 174 #[evv e] w fun r w' => r = .returned (.agg (row (spn e))) ∧ Below w.heap.size w w' := by
 have HS : Hid (spn e = [0, 511, 0, 511, -1, 3, 0, vm e, ml e, mh e]) := by show _ = _; unfold spn; simp [hk]
 have S1 := hide (SpW.start w e)
 have VA := hide fun u => values_any e u
 have MA := hide fun u => mates_any e u
 obtain ⟨k, g, c, a, v, m, s, o⟩ := e
 simp only at hk
 subst hk
 generalize vm (Ev.mk 3 g c a v m s o) = xv at HS VA
 generalize ml (Ev.mk 3 g c a v m s o) = xl at HS MA
 generalize mh (Ev.mk 3 g c a v m s o) = xh at HS MA
 generalize spn (Ev.mk 3 g c a v m s o) = sp at HS ⊢
 obtain rfl := HS.out
 clear HS
 unfold evv evc at VA MA ⊢
 simp only at VA MA
 simp only [evc, row, List.map_cons, List.map_nil] at S1
 go_enter Tryz.func174, Tryz.ntmps174
 go_wp2_with fail
 generalize (((((w.alloc (.cells #[.int .i64 3, .int .i64 g, .int .i64 c, .int .i64 a, .int .i64 v, .int .i64 m, .bool s, .bool o] 50)).alloc (.cells #[.int .i64 0, .int .i64 0, .int .i64 0, .int .i64 0, .int .i64 0, .int .i64 0, .int .i64 0, .int .i64 0, .int .i64 0, .int .i64 0] 244)).alloc (.cells #[.int .i64 (-1), .int .i64 (-1)] 243)).alloc (.cells #[.int .i64 0, .int .i64 511] 243)).alloc (.cells #[.int .i64 0, .int .i64 511, .int .i64 (-1), .int .i64 (-1), .int .i64 (-1), .int .i64 (-1), .int .i64 (-1), .int .i64 (-1), .int .i64 (-1), .int .i64 (-1)] 244)) = W at S1 ⊢
 generalize hN : w.heap.size = N at S1 ⊢
 have HN := hide hN
 clear hN
 have y0 : W.cell? ⟨N, 0, none⟩ = some (.int .i64 3) := cell_of S1.out.ev 0
 have y1 : W.cell? ⟨N, 1, none⟩ = some (.int .i64 g) := cell_of S1.out.ev 1
 have y2 : W.cell? ⟨N, 2, none⟩ = some (.int .i64 c) := cell_of S1.out.ev 2
 have y3 : W.cell? ⟨N, 3, none⟩ = some (.int .i64 a) := cell_of S1.out.ev 3
 have y4 : W.cell? ⟨N, 4, none⟩ = some (.int .i64 v) := cell_of S1.out.ev 4
 have y5 : W.cell? ⟨N, 5, none⟩ = some (.int .i64 m) := cell_of S1.out.ev 5
 have y6 : W.cell? ⟨N, 6, none⟩ = some (.bool s) := cell_of S1.out.ev 6
 have y7 : W.cell? ⟨N, 7, none⟩ = some (.bool o) := cell_of S1.out.ev 7
 have n0 : W.cell? ⟨N + 1 + 1 + 1, 0, none⟩ = some (.int .i64 0) := cell_of S1.out.nu 0
 have n1 : W.cell? ⟨N + 1 + 1 + 1, 1, none⟩ = some (.int .i64 511) := cell_of S1.out.nu 1
 go_region_held3 (fun w' => w'.cell? ⟨N, 0, none⟩ = some (.int .i64 3) ∧ w'.cell? ⟨N, 1, none⟩ = some (.int .i64 g) ∧ w'.cell? ⟨N, 2, none⟩ = some (.int .i64 c) ∧ w'.cell? ⟨N, 3, none⟩ = some (.int .i64 a) ∧ w'.cell? ⟨N, 4, none⟩ = some (.int .i64 v) ∧ w'.cell? ⟨N, 5, none⟩ = some (.int .i64 m) ∧ w'.cell? ⟨N, 6, none⟩ = some (.bool s) ∧ w'.cell? ⟨N, 7, none⟩ = some (.bool o) ∧ w'.cell? ⟨N + 1 + 1 + 1, 0, none⟩ = some (.int .i64 0) ∧ w'.cell? ⟨N + 1 + 1 + 1, 1, none⟩ = some (.int .i64 511))
  (first
    | (go_split_ands; refine ⟨?_, ?_, ?_, ?_, ?_, ?_, ?_, ?_, ?_, ?_⟩ <;> (with_reducible (refine cellS (cellS ?_ ?_) ?_)) <;> (first | with_reducible assumption | omega))
    | (go_split_ands; refine ⟨?_, ?_, ?_, ?_, ?_, ?_, ?_, ?_, ?_, ?_⟩ <;> (with_reducible (refine cellB ?_ c5)) <;> with_reducible assumption)
    | go_keep)
  ((go_at_call 183; refine (VA.out _).mono ?_; rintro r w5 ⟨rfl, c5⟩; have S5 := hide ((S1.out.below (bdrew1 _)).below c5); have r2 : w5.cell? ⟨N + 1 + 1 + 1 + 1, 2, none⟩ = some (.int .i64 (-1)) := cell_of S5.out.rw 2; have r3 : w5.cell? ⟨N + 1 + 1 + 1 + 1, 3, none⟩ = some (.int .i64 (-1)) := cell_of S5.out.rw 3; have r4 : w5.cell? ⟨N + 1 + 1 + 1 + 1, 4, none⟩ = some (.int .i64 (-1)) := cell_of S5.out.rw 4; have r5 : w5.cell? ⟨N + 1 + 1 + 1 + 1, 5, none⟩ = some (.int .i64 (-1)) := cell_of S5.out.rw 5; have r6 : w5.cell? ⟨N + 1 + 1 + 1 + 1, 6, none⟩ = some (.int .i64 (-1)) := cell_of S5.out.rw 6; have r7 : w5.cell? ⟨N + 1 + 1 + 1 + 1, 7, none⟩ = some (.int .i64 (-1)) := cell_of S5.out.rw 7; have z2 := frozen_of S5.out.rw 2; have z3 := frozen_of S5.out.rw 3; have z4 := frozen_of S5.out.rw 4; have z5 := frozen_of S5.out.rw 5; have z6 := frozen_of S5.out.rw 6; have z7 := frozen_of S5.out.rw 7))
 have S6 : Hid (SpW w ((((((w5.setCell ⟨N + 1 + 1 + 1 + 1, 2, none⟩ (.int .i64 0)).setCell ⟨N + 1 + 1 + 1 + 1, 3, none⟩ (.int .i64 511)).setCell ⟨N + 1 + 1 + 1 + 1, 4, none⟩ (.int .i64 (-1))).setCell ⟨N + 1 + 1 + 1 + 1, 5, none⟩ (.int .i64 3)).setCell ⟨N + 1 + 1 + 1 + 1, 6, none⟩ (.int .i64 0)).setCell ⟨N + 1 + 1 + 1 + 1, 7, none⟩ (.int .i64 xv)) N (Ev.mk 3 g c a v m s o) [0, 511, 0, 511, -1, 3, 0, xv, -1, -1]) := ((((((S5.out.set 2 0).set 3 511).set 4 (-1)).set 5 3).set 6 0).set 7 xv)
 clear S5 S1 c5
 generalize ((((((w5.setCell ⟨N + 1 + 1 + 1 + 1, 2, none⟩ (.int .i64 0)).setCell ⟨N + 1 + 1 + 1 + 1, 3, none⟩ (.int .i64 511)).setCell ⟨N + 1 + 1 + 1 + 1, 4, none⟩ (.int .i64 (-1))).setCell ⟨N + 1 + 1 + 1 + 1, 5, none⟩ (.int .i64 3)).setCell ⟨N + 1 + 1 + 1 + 1, 6, none⟩ (.int .i64 0)).setCell ⟨N + 1 + 1 + 1 + 1, 7, none⟩ (.int .i64 xv)) = U at S6 ⊢
 have y0 : U.cell? ⟨N, 0, none⟩ = some (.int .i64 3) := cell_of S6.out.ev 0
 have y1 : U.cell? ⟨N, 1, none⟩ = some (.int .i64 g) := cell_of S6.out.ev 1
 have y2 : U.cell? ⟨N, 2, none⟩ = some (.int .i64 c) := cell_of S6.out.ev 2
 have y3 : U.cell? ⟨N, 3, none⟩ = some (.int .i64 a) := cell_of S6.out.ev 3
 have y4 : U.cell? ⟨N, 4, none⟩ = some (.int .i64 v) := cell_of S6.out.ev 4
 have y5 : U.cell? ⟨N, 5, none⟩ = some (.int .i64 m) := cell_of S6.out.ev 5
 have y6 : U.cell? ⟨N, 6, none⟩ = some (.bool s) := cell_of S6.out.ev 6
 have y7 : U.cell? ⟨N, 7, none⟩ = some (.bool o) := cell_of S6.out.ev 7
 go_wp2_with fail
 refine (MA.out _).mono ?_
 rintro r w7 ⟨rfl, b7⟩
 have S7 := hide (S6.out.below b7)
 clear b7 S6 VA MA
 have r0 : w7.cell? ⟨N + 1 + 1 + 1 + 1, 0, none⟩ = some (.int .i64 0) := cell_of S7.out.rw 0
 have r1 : w7.cell? ⟨N + 1 + 1 + 1 + 1, 1, none⟩ = some (.int .i64 511) := cell_of S7.out.rw 1
 have r2 : w7.cell? ⟨N + 1 + 1 + 1 + 1, 2, none⟩ = some (.int .i64 0) := cell_of S7.out.rw 2
 have r3 : w7.cell? ⟨N + 1 + 1 + 1 + 1, 3, none⟩ = some (.int .i64 511) := cell_of S7.out.rw 3
 have r4 : w7.cell? ⟨N + 1 + 1 + 1 + 1, 4, none⟩ = some (.int .i64 (-1)) := cell_of S7.out.rw 4
 have r5 : w7.cell? ⟨N + 1 + 1 + 1 + 1, 5, none⟩ = some (.int .i64 3) := cell_of S7.out.rw 5
 have r6 : w7.cell? ⟨N + 1 + 1 + 1 + 1, 6, none⟩ = some (.int .i64 0) := cell_of S7.out.rw 6
 have r7 : w7.cell? ⟨N + 1 + 1 + 1 + 1, 7, none⟩ = some (.int .i64 xv) := cell_of S7.out.rw 7
 have r8 : w7.cell? ⟨N + 1 + 1 + 1 + 1, 8, none⟩ = some (.int .i64 (-1)) := cell_of S7.out.rw 8
 have r9 : w7.cell? ⟨N + 1 + 1 + 1 + 1, 9, none⟩ = some (.int .i64 (-1)) := cell_of S7.out.rw 9
 have t0 : w7.cell? ⟨N + 1, 0, none⟩ = some (.int .i64 0) := cell_of S7.out.rs 0
 have t1 : w7.cell? ⟨N + 1, 1, none⟩ = some (.int .i64 0) := cell_of S7.out.rs 1
 have t2 : w7.cell? ⟨N + 1, 2, none⟩ = some (.int .i64 0) := cell_of S7.out.rs 2
 have t3 : w7.cell? ⟨N + 1, 3, none⟩ = some (.int .i64 0) := cell_of S7.out.rs 3
 have t4 : w7.cell? ⟨N + 1, 4, none⟩ = some (.int .i64 0) := cell_of S7.out.rs 4
 have t5 : w7.cell? ⟨N + 1, 5, none⟩ = some (.int .i64 0) := cell_of S7.out.rs 5
 have t6 : w7.cell? ⟨N + 1, 6, none⟩ = some (.int .i64 0) := cell_of S7.out.rs 6
 have t7 : w7.cell? ⟨N + 1, 7, none⟩ = some (.int .i64 0) := cell_of S7.out.rs 7
 have t8 : w7.cell? ⟨N + 1, 8, none⟩ = some (.int .i64 0) := cell_of S7.out.rs 8
 have t9 : w7.cell? ⟨N + 1, 9, none⟩ = some (.int .i64 0) := cell_of S7.out.rs 9
 have f0 := frozen_of S7.out.rs 0
 have f1 := frozen_of S7.out.rs 1
 have f2 := frozen_of S7.out.rs 2
 have f3 := frozen_of S7.out.rs 3
 have f4 := frozen_of S7.out.rs 4
 have f5 := frozen_of S7.out.rs 5
 have f6 := frozen_of S7.out.rs 6
 have f7 := frozen_of S7.out.rs 7
 have f8 := frozen_of S7.out.rs 8
 have f9 := frozen_of S7.out.rs 9
 have z8 := frozen_of S7.out.rw 8
 have z9 := frozen_of S7.out.rw 9
 have S9 := hide ((S7.out.set 8 xl).set 9 xh)
 go_wp2_with fail
 exact bodyPost_ret (results_row1 Tryz.results174 _ _ _ _ rfl (loadVar_a10 (ten_set (z := [0, 0, 0, 0, 0, 0, 0, 0, 0, 0]) rfl S9.out.rs _ _ _ _ _ _ _ _ _ _) rfl)) rfl ⟨rfl, by rw [HN.out]; exact ten_below S9.out.b (Nat.le_succ _) _ _ _ _ _ _ _ _ _ _⟩
set_option maxRecDepth 100000 in
set_option maxHeartbeats 6400000 in
theorem spans4 (e : Ev) (w : World) (hk : e.k = 4) :
 Calls Tryz.prog 174 #[evv e] w fun r w' => r = .returned (.agg (row (spn e))) ∧ Below w.heap.size w w' := by
 have HS : Hid (spn e = [0, 511, 0, 511, -1, 3, 0, vm e, ml e, mh e]) := by show _ = _; unfold spn; simp [hk]
 have S1 := hide (SpW.start w e)
 have VA := hide fun u => values_any e u
 have MA := hide fun u => mates_any e u
 obtain ⟨k, g, c, a, v, m, s, o⟩ := e
 simp only at hk
 subst hk
 generalize vm (Ev.mk 4 g c a v m s o) = xv at HS VA
 generalize ml (Ev.mk 4 g c a v m s o) = xl at HS MA
 generalize mh (Ev.mk 4 g c a v m s o) = xh at HS MA
 generalize spn (Ev.mk 4 g c a v m s o) = sp at HS ⊢
 obtain rfl := HS.out
 clear HS
 unfold evv evc at VA MA ⊢
 simp only at VA MA
 simp only [evc, row, List.map_cons, List.map_nil] at S1
 go_enter Tryz.func174, Tryz.ntmps174
 go_wp2_with fail
 generalize (((((w.alloc (.cells #[.int .i64 4, .int .i64 g, .int .i64 c, .int .i64 a, .int .i64 v, .int .i64 m, .bool s, .bool o] 50)).alloc (.cells #[.int .i64 0, .int .i64 0, .int .i64 0, .int .i64 0, .int .i64 0, .int .i64 0, .int .i64 0, .int .i64 0, .int .i64 0, .int .i64 0] 244)).alloc (.cells #[.int .i64 (-1), .int .i64 (-1)] 243)).alloc (.cells #[.int .i64 0, .int .i64 511] 243)).alloc (.cells #[.int .i64 0, .int .i64 511, .int .i64 (-1), .int .i64 (-1), .int .i64 (-1), .int .i64 (-1), .int .i64 (-1), .int .i64 (-1), .int .i64 (-1), .int .i64 (-1)] 244)) = W at S1 ⊢
 generalize hN : w.heap.size = N at S1 ⊢
 have HN := hide hN
 clear hN
 have y0 : W.cell? ⟨N, 0, none⟩ = some (.int .i64 4) := cell_of S1.out.ev 0
 have y1 : W.cell? ⟨N, 1, none⟩ = some (.int .i64 g) := cell_of S1.out.ev 1
 have y2 : W.cell? ⟨N, 2, none⟩ = some (.int .i64 c) := cell_of S1.out.ev 2
 have y3 : W.cell? ⟨N, 3, none⟩ = some (.int .i64 a) := cell_of S1.out.ev 3
 have y4 : W.cell? ⟨N, 4, none⟩ = some (.int .i64 v) := cell_of S1.out.ev 4
 have y5 : W.cell? ⟨N, 5, none⟩ = some (.int .i64 m) := cell_of S1.out.ev 5
 have y6 : W.cell? ⟨N, 6, none⟩ = some (.bool s) := cell_of S1.out.ev 6
 have y7 : W.cell? ⟨N, 7, none⟩ = some (.bool o) := cell_of S1.out.ev 7
 have n0 : W.cell? ⟨N + 1 + 1 + 1, 0, none⟩ = some (.int .i64 0) := cell_of S1.out.nu 0
 have n1 : W.cell? ⟨N + 1 + 1 + 1, 1, none⟩ = some (.int .i64 511) := cell_of S1.out.nu 1
 go_region_held3 (fun w' => w'.cell? ⟨N, 0, none⟩ = some (.int .i64 4) ∧ w'.cell? ⟨N, 1, none⟩ = some (.int .i64 g) ∧ w'.cell? ⟨N, 2, none⟩ = some (.int .i64 c) ∧ w'.cell? ⟨N, 3, none⟩ = some (.int .i64 a) ∧ w'.cell? ⟨N, 4, none⟩ = some (.int .i64 v) ∧ w'.cell? ⟨N, 5, none⟩ = some (.int .i64 m) ∧ w'.cell? ⟨N, 6, none⟩ = some (.bool s) ∧ w'.cell? ⟨N, 7, none⟩ = some (.bool o) ∧ w'.cell? ⟨N + 1 + 1 + 1, 0, none⟩ = some (.int .i64 0) ∧ w'.cell? ⟨N + 1 + 1 + 1, 1, none⟩ = some (.int .i64 511))
  (first
    | (go_split_ands; refine ⟨?_, ?_, ?_, ?_, ?_, ?_, ?_, ?_, ?_, ?_⟩ <;> (with_reducible (refine cellS (cellS ?_ ?_) ?_)) <;> (first | with_reducible assumption | omega))
    | (go_split_ands; refine ⟨?_, ?_, ?_, ?_, ?_, ?_, ?_, ?_, ?_, ?_⟩ <;> (with_reducible (refine cellB ?_ c5)) <;> with_reducible assumption)
    | go_keep)
  ((go_at_call 183; refine (VA.out _).mono ?_; rintro r w5 ⟨rfl, c5⟩; have S5 := hide ((S1.out.below (bdrew1 _)).below c5); have r2 : w5.cell? ⟨N + 1 + 1 + 1 + 1, 2, none⟩ = some (.int .i64 (-1)) := cell_of S5.out.rw 2; have r3 : w5.cell? ⟨N + 1 + 1 + 1 + 1, 3, none⟩ = some (.int .i64 (-1)) := cell_of S5.out.rw 3; have r4 : w5.cell? ⟨N + 1 + 1 + 1 + 1, 4, none⟩ = some (.int .i64 (-1)) := cell_of S5.out.rw 4; have r5 : w5.cell? ⟨N + 1 + 1 + 1 + 1, 5, none⟩ = some (.int .i64 (-1)) := cell_of S5.out.rw 5; have r6 : w5.cell? ⟨N + 1 + 1 + 1 + 1, 6, none⟩ = some (.int .i64 (-1)) := cell_of S5.out.rw 6; have r7 : w5.cell? ⟨N + 1 + 1 + 1 + 1, 7, none⟩ = some (.int .i64 (-1)) := cell_of S5.out.rw 7; have z2 := frozen_of S5.out.rw 2; have z3 := frozen_of S5.out.rw 3; have z4 := frozen_of S5.out.rw 4; have z5 := frozen_of S5.out.rw 5; have z6 := frozen_of S5.out.rw 6; have z7 := frozen_of S5.out.rw 7))
 have S6 : Hid (SpW w ((((((w5.setCell ⟨N + 1 + 1 + 1 + 1, 2, none⟩ (.int .i64 0)).setCell ⟨N + 1 + 1 + 1 + 1, 3, none⟩ (.int .i64 511)).setCell ⟨N + 1 + 1 + 1 + 1, 4, none⟩ (.int .i64 (-1))).setCell ⟨N + 1 + 1 + 1 + 1, 5, none⟩ (.int .i64 3)).setCell ⟨N + 1 + 1 + 1 + 1, 6, none⟩ (.int .i64 0)).setCell ⟨N + 1 + 1 + 1 + 1, 7, none⟩ (.int .i64 xv)) N (Ev.mk 4 g c a v m s o) [0, 511, 0, 511, -1, 3, 0, xv, -1, -1]) := ((((((S5.out.set 2 0).set 3 511).set 4 (-1)).set 5 3).set 6 0).set 7 xv)
 clear S5 S1 c5
 generalize ((((((w5.setCell ⟨N + 1 + 1 + 1 + 1, 2, none⟩ (.int .i64 0)).setCell ⟨N + 1 + 1 + 1 + 1, 3, none⟩ (.int .i64 511)).setCell ⟨N + 1 + 1 + 1 + 1, 4, none⟩ (.int .i64 (-1))).setCell ⟨N + 1 + 1 + 1 + 1, 5, none⟩ (.int .i64 3)).setCell ⟨N + 1 + 1 + 1 + 1, 6, none⟩ (.int .i64 0)).setCell ⟨N + 1 + 1 + 1 + 1, 7, none⟩ (.int .i64 xv)) = U at S6 ⊢
 have y0 : U.cell? ⟨N, 0, none⟩ = some (.int .i64 4) := cell_of S6.out.ev 0
 have y1 : U.cell? ⟨N, 1, none⟩ = some (.int .i64 g) := cell_of S6.out.ev 1
 have y2 : U.cell? ⟨N, 2, none⟩ = some (.int .i64 c) := cell_of S6.out.ev 2
 have y3 : U.cell? ⟨N, 3, none⟩ = some (.int .i64 a) := cell_of S6.out.ev 3
 have y4 : U.cell? ⟨N, 4, none⟩ = some (.int .i64 v) := cell_of S6.out.ev 4
 have y5 : U.cell? ⟨N, 5, none⟩ = some (.int .i64 m) := cell_of S6.out.ev 5
 have y6 : U.cell? ⟨N, 6, none⟩ = some (.bool s) := cell_of S6.out.ev 6
 have y7 : U.cell? ⟨N, 7, none⟩ = some (.bool o) := cell_of S6.out.ev 7
 go_wp2_with fail
 refine (MA.out _).mono ?_
 rintro r w7 ⟨rfl, b7⟩
 have S7 := hide (S6.out.below b7)
 clear b7 S6 VA MA
 have r0 : w7.cell? ⟨N + 1 + 1 + 1 + 1, 0, none⟩ = some (.int .i64 0) := cell_of S7.out.rw 0
 have r1 : w7.cell? ⟨N + 1 + 1 + 1 + 1, 1, none⟩ = some (.int .i64 511) := cell_of S7.out.rw 1
 have r2 : w7.cell? ⟨N + 1 + 1 + 1 + 1, 2, none⟩ = some (.int .i64 0) := cell_of S7.out.rw 2
 have r3 : w7.cell? ⟨N + 1 + 1 + 1 + 1, 3, none⟩ = some (.int .i64 511) := cell_of S7.out.rw 3
 have r4 : w7.cell? ⟨N + 1 + 1 + 1 + 1, 4, none⟩ = some (.int .i64 (-1)) := cell_of S7.out.rw 4
 have r5 : w7.cell? ⟨N + 1 + 1 + 1 + 1, 5, none⟩ = some (.int .i64 3) := cell_of S7.out.rw 5
 have r6 : w7.cell? ⟨N + 1 + 1 + 1 + 1, 6, none⟩ = some (.int .i64 0) := cell_of S7.out.rw 6
 have r7 : w7.cell? ⟨N + 1 + 1 + 1 + 1, 7, none⟩ = some (.int .i64 xv) := cell_of S7.out.rw 7
 have r8 : w7.cell? ⟨N + 1 + 1 + 1 + 1, 8, none⟩ = some (.int .i64 (-1)) := cell_of S7.out.rw 8
 have r9 : w7.cell? ⟨N + 1 + 1 + 1 + 1, 9, none⟩ = some (.int .i64 (-1)) := cell_of S7.out.rw 9
 have t0 : w7.cell? ⟨N + 1, 0, none⟩ = some (.int .i64 0) := cell_of S7.out.rs 0
 have t1 : w7.cell? ⟨N + 1, 1, none⟩ = some (.int .i64 0) := cell_of S7.out.rs 1
 have t2 : w7.cell? ⟨N + 1, 2, none⟩ = some (.int .i64 0) := cell_of S7.out.rs 2
 have t3 : w7.cell? ⟨N + 1, 3, none⟩ = some (.int .i64 0) := cell_of S7.out.rs 3
 have t4 : w7.cell? ⟨N + 1, 4, none⟩ = some (.int .i64 0) := cell_of S7.out.rs 4
 have t5 : w7.cell? ⟨N + 1, 5, none⟩ = some (.int .i64 0) := cell_of S7.out.rs 5
 have t6 : w7.cell? ⟨N + 1, 6, none⟩ = some (.int .i64 0) := cell_of S7.out.rs 6
 have t7 : w7.cell? ⟨N + 1, 7, none⟩ = some (.int .i64 0) := cell_of S7.out.rs 7
 have t8 : w7.cell? ⟨N + 1, 8, none⟩ = some (.int .i64 0) := cell_of S7.out.rs 8
 have t9 : w7.cell? ⟨N + 1, 9, none⟩ = some (.int .i64 0) := cell_of S7.out.rs 9
 have f0 := frozen_of S7.out.rs 0
 have f1 := frozen_of S7.out.rs 1
 have f2 := frozen_of S7.out.rs 2
 have f3 := frozen_of S7.out.rs 3
 have f4 := frozen_of S7.out.rs 4
 have f5 := frozen_of S7.out.rs 5
 have f6 := frozen_of S7.out.rs 6
 have f7 := frozen_of S7.out.rs 7
 have f8 := frozen_of S7.out.rs 8
 have f9 := frozen_of S7.out.rs 9
 have z8 := frozen_of S7.out.rw 8
 have z9 := frozen_of S7.out.rw 9
 have S9 := hide ((S7.out.set 8 xl).set 9 xh)
 go_wp2_with fail
 exact bodyPost_ret (results_row1 Tryz.results174 _ _ _ _ rfl (loadVar_a10 (ten_set (z := [0, 0, 0, 0, 0, 0, 0, 0, 0, 0]) rfl S9.out.rs _ _ _ _ _ _ _ _ _ _) rfl)) rfl ⟨rfl, by rw [HN.out]; exact ten_below S9.out.b (Nat.le_succ _) _ _ _ _ _ _ _ _ _ _⟩
set_option maxRecDepth 100000 in
set_option maxHeartbeats 6400000 in
theorem spans7 (e : Ev) (w : World) (hk : e.k = 7) :
 Calls Tryz.prog 174 #[evv e] w fun r w' => r = .returned (.agg (row (spn e))) ∧ Below w.heap.size w w' := by
 have HS : Hid (spn e = [0, 511, 0, 511, -1, 3, 0, vm e, ml e, mh e]) := by show _ = _; unfold spn; simp [hk]
 have S1 := hide (SpW.start w e)
 have VA := hide fun u => values_any e u
 have MA := hide fun u => mates_any e u
 obtain ⟨k, g, c, a, v, m, s, o⟩ := e
 simp only at hk
 subst hk
 generalize vm (Ev.mk 7 g c a v m s o) = xv at HS VA
 generalize ml (Ev.mk 7 g c a v m s o) = xl at HS MA
 generalize mh (Ev.mk 7 g c a v m s o) = xh at HS MA
 generalize spn (Ev.mk 7 g c a v m s o) = sp at HS ⊢
 obtain rfl := HS.out
 clear HS
 unfold evv evc at VA MA ⊢
 simp only at VA MA
 simp only [evc, row, List.map_cons, List.map_nil] at S1
 go_enter Tryz.func174, Tryz.ntmps174
 go_wp2_with fail
 generalize (((((w.alloc (.cells #[.int .i64 7, .int .i64 g, .int .i64 c, .int .i64 a, .int .i64 v, .int .i64 m, .bool s, .bool o] 50)).alloc (.cells #[.int .i64 0, .int .i64 0, .int .i64 0, .int .i64 0, .int .i64 0, .int .i64 0, .int .i64 0, .int .i64 0, .int .i64 0, .int .i64 0] 244)).alloc (.cells #[.int .i64 (-1), .int .i64 (-1)] 243)).alloc (.cells #[.int .i64 0, .int .i64 511] 243)).alloc (.cells #[.int .i64 0, .int .i64 511, .int .i64 (-1), .int .i64 (-1), .int .i64 (-1), .int .i64 (-1), .int .i64 (-1), .int .i64 (-1), .int .i64 (-1), .int .i64 (-1)] 244)) = W at S1 ⊢
 generalize hN : w.heap.size = N at S1 ⊢
 have HN := hide hN
 clear hN
 have y0 : W.cell? ⟨N, 0, none⟩ = some (.int .i64 7) := cell_of S1.out.ev 0
 have y1 : W.cell? ⟨N, 1, none⟩ = some (.int .i64 g) := cell_of S1.out.ev 1
 have y2 : W.cell? ⟨N, 2, none⟩ = some (.int .i64 c) := cell_of S1.out.ev 2
 have y3 : W.cell? ⟨N, 3, none⟩ = some (.int .i64 a) := cell_of S1.out.ev 3
 have y4 : W.cell? ⟨N, 4, none⟩ = some (.int .i64 v) := cell_of S1.out.ev 4
 have y5 : W.cell? ⟨N, 5, none⟩ = some (.int .i64 m) := cell_of S1.out.ev 5
 have y6 : W.cell? ⟨N, 6, none⟩ = some (.bool s) := cell_of S1.out.ev 6
 have y7 : W.cell? ⟨N, 7, none⟩ = some (.bool o) := cell_of S1.out.ev 7
 have n0 : W.cell? ⟨N + 1 + 1 + 1, 0, none⟩ = some (.int .i64 0) := cell_of S1.out.nu 0
 have n1 : W.cell? ⟨N + 1 + 1 + 1, 1, none⟩ = some (.int .i64 511) := cell_of S1.out.nu 1
 go_region_held3 (fun w' => w'.cell? ⟨N, 0, none⟩ = some (.int .i64 7) ∧ w'.cell? ⟨N, 1, none⟩ = some (.int .i64 g) ∧ w'.cell? ⟨N, 2, none⟩ = some (.int .i64 c) ∧ w'.cell? ⟨N, 3, none⟩ = some (.int .i64 a) ∧ w'.cell? ⟨N, 4, none⟩ = some (.int .i64 v) ∧ w'.cell? ⟨N, 5, none⟩ = some (.int .i64 m) ∧ w'.cell? ⟨N, 6, none⟩ = some (.bool s) ∧ w'.cell? ⟨N, 7, none⟩ = some (.bool o) ∧ w'.cell? ⟨N + 1 + 1 + 1, 0, none⟩ = some (.int .i64 0) ∧ w'.cell? ⟨N + 1 + 1 + 1, 1, none⟩ = some (.int .i64 511))
  (first
    | (go_split_ands; refine ⟨?_, ?_, ?_, ?_, ?_, ?_, ?_, ?_, ?_, ?_⟩ <;> (with_reducible (refine cellS (cellS ?_ ?_) ?_)) <;> (first | with_reducible assumption | omega))
    | (go_split_ands; refine ⟨?_, ?_, ?_, ?_, ?_, ?_, ?_, ?_, ?_, ?_⟩ <;> (with_reducible (refine cellB ?_ c5)) <;> with_reducible assumption)
    | go_keep)
  ((go_at_call 183; refine (VA.out _).mono ?_; rintro r w5 ⟨rfl, c5⟩; have S5 := hide ((S1.out.below (bdrew1 _)).below c5); have r2 : w5.cell? ⟨N + 1 + 1 + 1 + 1, 2, none⟩ = some (.int .i64 (-1)) := cell_of S5.out.rw 2; have r3 : w5.cell? ⟨N + 1 + 1 + 1 + 1, 3, none⟩ = some (.int .i64 (-1)) := cell_of S5.out.rw 3; have r4 : w5.cell? ⟨N + 1 + 1 + 1 + 1, 4, none⟩ = some (.int .i64 (-1)) := cell_of S5.out.rw 4; have r5 : w5.cell? ⟨N + 1 + 1 + 1 + 1, 5, none⟩ = some (.int .i64 (-1)) := cell_of S5.out.rw 5; have r6 : w5.cell? ⟨N + 1 + 1 + 1 + 1, 6, none⟩ = some (.int .i64 (-1)) := cell_of S5.out.rw 6; have r7 : w5.cell? ⟨N + 1 + 1 + 1 + 1, 7, none⟩ = some (.int .i64 (-1)) := cell_of S5.out.rw 7; have z2 := frozen_of S5.out.rw 2; have z3 := frozen_of S5.out.rw 3; have z4 := frozen_of S5.out.rw 4; have z5 := frozen_of S5.out.rw 5; have z6 := frozen_of S5.out.rw 6; have z7 := frozen_of S5.out.rw 7))
 have S6 : Hid (SpW w ((((((w5.setCell ⟨N + 1 + 1 + 1 + 1, 2, none⟩ (.int .i64 0)).setCell ⟨N + 1 + 1 + 1 + 1, 3, none⟩ (.int .i64 511)).setCell ⟨N + 1 + 1 + 1 + 1, 4, none⟩ (.int .i64 (-1))).setCell ⟨N + 1 + 1 + 1 + 1, 5, none⟩ (.int .i64 3)).setCell ⟨N + 1 + 1 + 1 + 1, 6, none⟩ (.int .i64 0)).setCell ⟨N + 1 + 1 + 1 + 1, 7, none⟩ (.int .i64 xv)) N (Ev.mk 7 g c a v m s o) [0, 511, 0, 511, -1, 3, 0, xv, -1, -1]) := ((((((S5.out.set 2 0).set 3 511).set 4 (-1)).set 5 3).set 6 0).set 7 xv)
 clear S5 S1 c5
 generalize ((((((w5.setCell ⟨N + 1 + 1 + 1 + 1, 2, none⟩ (.int .i64 0)).setCell ⟨N + 1 + 1 + 1 + 1, 3, none⟩ (.int .i64 511)).setCell ⟨N + 1 + 1 + 1 + 1, 4, none⟩ (.int .i64 (-1))).setCell ⟨N + 1 + 1 + 1 + 1, 5, none⟩ (.int .i64 3)).setCell ⟨N + 1 + 1 + 1 + 1, 6, none⟩ (.int .i64 0)).setCell ⟨N + 1 + 1 + 1 + 1, 7, none⟩ (.int .i64 xv)) = U at S6 ⊢
 have y0 : U.cell? ⟨N, 0, none⟩ = some (.int .i64 7) := cell_of S6.out.ev 0
 have y1 : U.cell? ⟨N, 1, none⟩ = some (.int .i64 g) := cell_of S6.out.ev 1
 have y2 : U.cell? ⟨N, 2, none⟩ = some (.int .i64 c) := cell_of S6.out.ev 2
 have y3 : U.cell? ⟨N, 3, none⟩ = some (.int .i64 a) := cell_of S6.out.ev 3
 have y4 : U.cell? ⟨N, 4, none⟩ = some (.int .i64 v) := cell_of S6.out.ev 4
 have y5 : U.cell? ⟨N, 5, none⟩ = some (.int .i64 m) := cell_of S6.out.ev 5
 have y6 : U.cell? ⟨N, 6, none⟩ = some (.bool s) := cell_of S6.out.ev 6
 have y7 : U.cell? ⟨N, 7, none⟩ = some (.bool o) := cell_of S6.out.ev 7
 go_wp2_with fail
 refine (MA.out _).mono ?_
 rintro r w7 ⟨rfl, b7⟩
 have S7 := hide (S6.out.below b7)
 clear b7 S6 VA MA
 have r0 : w7.cell? ⟨N + 1 + 1 + 1 + 1, 0, none⟩ = some (.int .i64 0) := cell_of S7.out.rw 0
 have r1 : w7.cell? ⟨N + 1 + 1 + 1 + 1, 1, none⟩ = some (.int .i64 511) := cell_of S7.out.rw 1
 have r2 : w7.cell? ⟨N + 1 + 1 + 1 + 1, 2, none⟩ = some (.int .i64 0) := cell_of S7.out.rw 2
 have r3 : w7.cell? ⟨N + 1 + 1 + 1 + 1, 3, none⟩ = some (.int .i64 511) := cell_of S7.out.rw 3
 have r4 : w7.cell? ⟨N + 1 + 1 + 1 + 1, 4, none⟩ = some (.int .i64 (-1)) := cell_of S7.out.rw 4
 have r5 : w7.cell? ⟨N + 1 + 1 + 1 + 1, 5, none⟩ = some (.int .i64 3) := cell_of S7.out.rw 5
 have r6 : w7.cell? ⟨N + 1 + 1 + 1 + 1, 6, none⟩ = some (.int .i64 0) := cell_of S7.out.rw 6
 have r7 : w7.cell? ⟨N + 1 + 1 + 1 + 1, 7, none⟩ = some (.int .i64 xv) := cell_of S7.out.rw 7
 have r8 : w7.cell? ⟨N + 1 + 1 + 1 + 1, 8, none⟩ = some (.int .i64 (-1)) := cell_of S7.out.rw 8
 have r9 : w7.cell? ⟨N + 1 + 1 + 1 + 1, 9, none⟩ = some (.int .i64 (-1)) := cell_of S7.out.rw 9
 have t0 : w7.cell? ⟨N + 1, 0, none⟩ = some (.int .i64 0) := cell_of S7.out.rs 0
 have t1 : w7.cell? ⟨N + 1, 1, none⟩ = some (.int .i64 0) := cell_of S7.out.rs 1
 have t2 : w7.cell? ⟨N + 1, 2, none⟩ = some (.int .i64 0) := cell_of S7.out.rs 2
 have t3 : w7.cell? ⟨N + 1, 3, none⟩ = some (.int .i64 0) := cell_of S7.out.rs 3
 have t4 : w7.cell? ⟨N + 1, 4, none⟩ = some (.int .i64 0) := cell_of S7.out.rs 4
 have t5 : w7.cell? ⟨N + 1, 5, none⟩ = some (.int .i64 0) := cell_of S7.out.rs 5
 have t6 : w7.cell? ⟨N + 1, 6, none⟩ = some (.int .i64 0) := cell_of S7.out.rs 6
 have t7 : w7.cell? ⟨N + 1, 7, none⟩ = some (.int .i64 0) := cell_of S7.out.rs 7
 have t8 : w7.cell? ⟨N + 1, 8, none⟩ = some (.int .i64 0) := cell_of S7.out.rs 8
 have t9 : w7.cell? ⟨N + 1, 9, none⟩ = some (.int .i64 0) := cell_of S7.out.rs 9
 have f0 := frozen_of S7.out.rs 0
 have f1 := frozen_of S7.out.rs 1
 have f2 := frozen_of S7.out.rs 2
 have f3 := frozen_of S7.out.rs 3
 have f4 := frozen_of S7.out.rs 4
 have f5 := frozen_of S7.out.rs 5
 have f6 := frozen_of S7.out.rs 6
 have f7 := frozen_of S7.out.rs 7
 have f8 := frozen_of S7.out.rs 8
 have f9 := frozen_of S7.out.rs 9
 have z8 := frozen_of S7.out.rw 8
 have z9 := frozen_of S7.out.rw 9
 have S9 := hide ((S7.out.set 8 xl).set 9 xh)
 go_wp2_with fail
 exact bodyPost_ret (results_row1 Tryz.results174 _ _ _ _ rfl (loadVar_a10 (ten_set (z := [0, 0, 0, 0, 0, 0, 0, 0, 0, 0]) rfl S9.out.rs _ _ _ _ _ _ _ _ _ _) rfl)) rfl ⟨rfl, by rw [HN.out]; exact ten_below S9.out.b (Nat.le_succ _) _ _ _ _ _ _ _ _ _ _⟩
set_option maxRecDepth 100000 in
set_option maxHeartbeats 6400000 in
theorem spans6 (e : Ev) (w : World) (hk : e.k = 6) :
 Calls Tryz.prog 174 #[evv e] w fun r w' => r = .returned (.agg (row (spn e))) ∧ Below w.heap.size w w' := by
 have HS : Hid (spn e = if (e.a != -1) = true then [0, 511, -1, -1, -1, 4, 0, vm e, -1, -1] else [0, 511, -1, 511, -1, 4, 0, vm e, -1, -1]) := by show _ = _; unfold spn; simp [hk]
 have S1 := hide (SpW.start w e)
 have VA := hide fun u => values_any e u
 have IS := hide fun u => isSelect_any e u
 obtain ⟨k, g, c, a, v, m, s, o⟩ := e
 simp only at hk HS IS
 subst hk
 generalize vm (Ev.mk 6 g c a v m s o) = xv at HS VA
 generalize spn (Ev.mk 6 g c a v m s o) = sp at HS ⊢
 generalize hsel : (a != -1) = sel at HS IS
 clear hsel
 unfold evv evc at VA IS ⊢
 simp only at VA IS
 simp only [evc, row, List.map_cons, List.map_nil] at S1
 go_enter Tryz.func174, Tryz.ntmps174
 go_wp2_with fail
 generalize (((((w.alloc (.cells #[.int .i64 6, .int .i64 g, .int .i64 c, .int .i64 a, .int .i64 v, .int .i64 m, .bool s, .bool o] 50)).alloc (.cells #[.int .i64 0, .int .i64 0, .int .i64 0, .int .i64 0, .int .i64 0, .int .i64 0, .int .i64 0, .int .i64 0, .int .i64 0, .int .i64 0] 244)).alloc (.cells #[.int .i64 (-1), .int .i64 (-1)] 243)).alloc (.cells #[.int .i64 0, .int .i64 511] 243)).alloc (.cells #[.int .i64 0, .int .i64 511, .int .i64 (-1), .int .i64 (-1), .int .i64 (-1), .int .i64 (-1), .int .i64 (-1), .int .i64 (-1), .int .i64 (-1), .int .i64 (-1)] 244)) = W at S1 ⊢
 generalize hN : w.heap.size = N at S1 ⊢
 have HN := hide hN
 clear hN
 refine (VA.out _).mono ?_
 rintro r w5 ⟨rfl, b5⟩
 have S5 := hide (S1.out.below b5)
 clear b5 S1
 have r0 : w5.cell? ⟨N + 1 + 1 + 1 + 1, 0, none⟩ = some (.int .i64 0) := cell_of S5.out.rw 0
 have r1 : w5.cell? ⟨N + 1 + 1 + 1 + 1, 1, none⟩ = some (.int .i64 511) := cell_of S5.out.rw 1
 have r2 : w5.cell? ⟨N + 1 + 1 + 1 + 1, 2, none⟩ = some (.int .i64 (-1)) := cell_of S5.out.rw 2
 have r3 : w5.cell? ⟨N + 1 + 1 + 1 + 1, 3, none⟩ = some (.int .i64 (-1)) := cell_of S5.out.rw 3
 have r4 : w5.cell? ⟨N + 1 + 1 + 1 + 1, 4, none⟩ = some (.int .i64 (-1)) := cell_of S5.out.rw 4
 have r5 : w5.cell? ⟨N + 1 + 1 + 1 + 1, 5, none⟩ = some (.int .i64 (-1)) := cell_of S5.out.rw 5
 have r6 : w5.cell? ⟨N + 1 + 1 + 1 + 1, 6, none⟩ = some (.int .i64 (-1)) := cell_of S5.out.rw 6
 have r7 : w5.cell? ⟨N + 1 + 1 + 1 + 1, 7, none⟩ = some (.int .i64 (-1)) := cell_of S5.out.rw 7
 have r8 : w5.cell? ⟨N + 1 + 1 + 1 + 1, 8, none⟩ = some (.int .i64 (-1)) := cell_of S5.out.rw 8
 have r9 : w5.cell? ⟨N + 1 + 1 + 1 + 1, 9, none⟩ = some (.int .i64 (-1)) := cell_of S5.out.rw 9
 have z0 := frozen_of S5.out.rw 0
 have z1 := frozen_of S5.out.rw 1
 have z2 := frozen_of S5.out.rw 2
 have z3 := frozen_of S5.out.rw 3
 have z4 := frozen_of S5.out.rw 4
 have z5 := frozen_of S5.out.rw 5
 have z6 := frozen_of S5.out.rw 6
 have z7 := frozen_of S5.out.rw 7
 have z8 := frozen_of S5.out.rw 8
 have z9 := frozen_of S5.out.rw 9
 have y0 : w5.cell? ⟨N, 0, none⟩ = some (.int .i64 6) := cell_of S5.out.ev 0
 have y1 : w5.cell? ⟨N, 1, none⟩ = some (.int .i64 g) := cell_of S5.out.ev 1
 have y2 : w5.cell? ⟨N, 2, none⟩ = some (.int .i64 c) := cell_of S5.out.ev 2
 have y3 : w5.cell? ⟨N, 3, none⟩ = some (.int .i64 a) := cell_of S5.out.ev 3
 have y4 : w5.cell? ⟨N, 4, none⟩ = some (.int .i64 v) := cell_of S5.out.ev 4
 have y5 : w5.cell? ⟨N, 5, none⟩ = some (.int .i64 m) := cell_of S5.out.ev 5
 have y6 : w5.cell? ⟨N, 6, none⟩ = some (.bool s) := cell_of S5.out.ev 6
 have y7 : w5.cell? ⟨N, 7, none⟩ = some (.bool o) := cell_of S5.out.ev 7
 have S6 : Hid (SpW w ((((((w5.setCell ⟨N + 1 + 1 + 1 + 1, 2, none⟩ (.int .i64 (-1))).setCell ⟨N + 1 + 1 + 1 + 1, 3, none⟩ (.int .i64 511)).setCell ⟨N + 1 + 1 + 1 + 1, 4, none⟩ (.int .i64 (-1))).setCell ⟨N + 1 + 1 + 1 + 1, 5, none⟩ (.int .i64 4)).setCell ⟨N + 1 + 1 + 1 + 1, 6, none⟩ (.int .i64 0)).setCell ⟨N + 1 + 1 + 1 + 1, 7, none⟩ (.int .i64 xv)) N (Ev.mk 6 g c a v m s o) [0, 511, -1, 511, -1, 4, 0, xv, -1, -1]) := ((((((S5.out.set 2 (-1)).set 3 511).set 4 (-1)).set 5 4).set 6 0).set 7 xv)
 go_wp2_with fail
 generalize ((((((w5.setCell ⟨N + 1 + 1 + 1 + 1, 2, none⟩ (.int .i64 (-1))).setCell ⟨N + 1 + 1 + 1 + 1, 3, none⟩ (.int .i64 511)).setCell ⟨N + 1 + 1 + 1 + 1, 4, none⟩ (.int .i64 (-1))).setCell ⟨N + 1 + 1 + 1 + 1, 5, none⟩ (.int .i64 4)).setCell ⟨N + 1 + 1 + 1 + 1, 6, none⟩ (.int .i64 0)).setCell ⟨N + 1 + 1 + 1 + 1, 7, none⟩ (.int .i64 xv)) = U at S6 ⊢
 refine (IS.out _).mono ?_
 rintro r w7 ⟨rfl, b7⟩
 have S7 := hide (S6.out.below b7)
 clear b7 S6 S5 VA IS r0 r1 r2 r3 r4 r5 r6 r7 r8 r9 z0 z1 z2 z3 z4 z5 z6 z7 z8 z9 y0 y1 y2 y3 y4 y5 y6 y7
 have r0 : w7.cell? ⟨N + 1 + 1 + 1 + 1, 0, none⟩ = some (.int .i64 0) := cell_of S7.out.rw 0
 have r1 : w7.cell? ⟨N + 1 + 1 + 1 + 1, 1, none⟩ = some (.int .i64 511) := cell_of S7.out.rw 1
 have r2 : w7.cell? ⟨N + 1 + 1 + 1 + 1, 2, none⟩ = some (.int .i64 (-1)) := cell_of S7.out.rw 2
 have r3 : w7.cell? ⟨N + 1 + 1 + 1 + 1, 3, none⟩ = some (.int .i64 511) := cell_of S7.out.rw 3
 have r4 : w7.cell? ⟨N + 1 + 1 + 1 + 1, 4, none⟩ = some (.int .i64 (-1)) := cell_of S7.out.rw 4
 have r5 : w7.cell? ⟨N + 1 + 1 + 1 + 1, 5, none⟩ = some (.int .i64 4) := cell_of S7.out.rw 5
 have r6 : w7.cell? ⟨N + 1 + 1 + 1 + 1, 6, none⟩ = some (.int .i64 0) := cell_of S7.out.rw 6
 have r7 : w7.cell? ⟨N + 1 + 1 + 1 + 1, 7, none⟩ = some (.int .i64 xv) := cell_of S7.out.rw 7
 have r8 : w7.cell? ⟨N + 1 + 1 + 1 + 1, 8, none⟩ = some (.int .i64 (-1)) := cell_of S7.out.rw 8
 have r9 : w7.cell? ⟨N + 1 + 1 + 1 + 1, 9, none⟩ = some (.int .i64 (-1)) := cell_of S7.out.rw 9
 have t0 : w7.cell? ⟨N + 1, 0, none⟩ = some (.int .i64 0) := cell_of S7.out.rs 0
 have t1 : w7.cell? ⟨N + 1, 1, none⟩ = some (.int .i64 0) := cell_of S7.out.rs 1
 have t2 : w7.cell? ⟨N + 1, 2, none⟩ = some (.int .i64 0) := cell_of S7.out.rs 2
 have t3 : w7.cell? ⟨N + 1, 3, none⟩ = some (.int .i64 0) := cell_of S7.out.rs 3
 have t4 : w7.cell? ⟨N + 1, 4, none⟩ = some (.int .i64 0) := cell_of S7.out.rs 4
 have t5 : w7.cell? ⟨N + 1, 5, none⟩ = some (.int .i64 0) := cell_of S7.out.rs 5
 have t6 : w7.cell? ⟨N + 1, 6, none⟩ = some (.int .i64 0) := cell_of S7.out.rs 6
 have t7 : w7.cell? ⟨N + 1, 7, none⟩ = some (.int .i64 0) := cell_of S7.out.rs 7
 have t8 : w7.cell? ⟨N + 1, 8, none⟩ = some (.int .i64 0) := cell_of S7.out.rs 8
 have t9 : w7.cell? ⟨N + 1, 9, none⟩ = some (.int .i64 0) := cell_of S7.out.rs 9
 have f0 := frozen_of S7.out.rs 0
 have f1 := frozen_of S7.out.rs 1
 have f2 := frozen_of S7.out.rs 2
 have f3 := frozen_of S7.out.rs 3
 have f4 := frozen_of S7.out.rs 4
 have f5 := frozen_of S7.out.rs 5
 have f6 := frozen_of S7.out.rs 6
 have f7 := frozen_of S7.out.rs 7
 have f8 := frozen_of S7.out.rs 8
 have f9 := frozen_of S7.out.rs 9
 cases sel
 ·obtain rfl := HS.out
  go_wp2_with fail
  exact bodyPost_ret (results_row1 Tryz.results174 _ _ _ _ rfl (loadVar_a10 (ten_set (z := [0, 0, 0, 0, 0, 0, 0, 0, 0, 0]) rfl S7.out.rs _ _ _ _ _ _ _ _ _ _) rfl)) rfl ⟨rfl, by rw [HN.out]; exact ten_below S7.out.b (Nat.le_succ _) _ _ _ _ _ _ _ _ _ _⟩
 ·obtain rfl := HS.out
  have z2 := frozen_of S7.out.rw 2
  have z3 := frozen_of S7.out.rw 3
  have n0 : w7.cell? ⟨N + 1 + 1, 0, none⟩ = some (.int .i64 (-1)) := cell_of S7.out.no 0
  have n1 : w7.cell? ⟨N + 1 + 1, 1, none⟩ = some (.int .i64 (-1)) := cell_of S7.out.no 1
  have S9 := hide ((S7.out.set 2 (-1)).set 3 (-1))
  go_wp2_with fail
  exact bodyPost_ret (results_row1 Tryz.results174 _ _ _ _ rfl (loadVar_a10 (ten_set (z := [0, 0, 0, 0, 0, 0, 0, 0, 0, 0]) rfl S9.out.rs _ _ _ _ _ _ _ _ _ _) rfl)) rfl ⟨rfl, by rw [HN.out]; exact ten_below S9.out.b (Nat.le_succ _) _ _ _ _ _ _ _ _ _ _⟩
theorem spans_any (e : Ev) (w : World) (h1 : 1 ≤ e.k) (h2 : e.k ≤ 13) :
 Calls Tryz.prog 174 #[evv e] w fun r w' => r = .returned (.agg (row (spn e))) ∧ Below w.heap.size w w' := by
 have hk : e.k = 1 ∨ e.k = 2 ∨ e.k = 3 ∨ e.k = 4 ∨ e.k = 5 ∨ e.k = 6 ∨ e.k = 7 ∨ e.k = 8 ∨ e.k = 9 ∨ e.k = 10 ∨ e.k = 11 ∨ e.k = 12 ∨ e.k = 13 := by omega
 rcases hk with h | h | h | h | h | h | h | h | h | h | h | h | h
 ·exact spans1 e w h
 ·exact spans2 e w h
 ·exact spans3 e w h
 ·exact spans4 e w h
 ·exact spans5 e w h
 ·exact spans6 e w h
 ·exact spans7 e w h
 ·exact spans8 e w h
 ·exact spans9 e w h
 ·exact spans10 e w h
 ·exact spans11 e w h
 ·exact spans12 e w h
 ·exact spans13 e w h
end En
end Go.Proofs.YtblfimobiibmjaaGreat
namespace Go.Proofs.YtblfimobiibmjaaGreat
open Go.ChangeShapes Go.WideShapes Go.ChangeAt Go.RowKit
namespace En
open Ba Re
theorem spn_len (e : Ev) : (spn e).length = 10 := by
 unfold spn
 repeat' split
 all_goals rfl
def fl (e : Ev) : List Int := [e.g, e.c, e.a, e.v, e.m]
def okA (e : Ev) (j : Nat) : Bool := inS (nth (fl e) j) (nth (spn e) (j * 2)) (nth (spn e) (j * 2 + 1))
def okF (e : Ev) : Bool := (List.range 5).all (okA e)
def chk (e : Ev) : Int := if e.k < 1 ∨ 13 < e.k then 1 else if (ff e && okF e) = true then 0 else 4
theorem okF_yes {e : Ev} (h : ∀ j, j < 5 → okA e j = true) : okF e = true := by
 unfold okF
 rw [List.all_eq_true]
 intro j hj
 exact h j (List.mem_range.1 hj)
theorem okF_no {e : Ev} {j : Nat} (hj : j < 5) (h : okA e j = false) : okF e = false := by
 unfold okF
 rw [List.all_eq_false]
 exact ⟨j, List.mem_range.2 hj, by rw [h]; decide⟩
theorem okF_at {e : Ev} (h : okF e = true) (j : Nat) (hj : j < 5) : okA e j = true := by
 unfold okF at h
 rw [List.all_eq_true] at h
 exact h j (List.mem_range.2 hj)
set_option maxRecDepth 100000 in
set_option maxHeartbeats 3200000 in
theorem check_any (e : Ev) (w : World) :
 Calls Tryz.prog 157 #[evv e] w fun r w' => r = .returned (.int .i64 (chk e)) ∧ Below w.heap.size w w' := by
 have FF := hide fun u => flagsFit_any e u
 have SP := hide fun u (h1 : 1 ≤ e.k) (h2 : e.k ≤ 13) => spans_any e u h1 h2
 have CK : Hid (chk e = if e.k < 1 ∨ 13 < e.k then 1 else if (ff e && okF e) = true then 0 else 4) := rfl
 have EN := hide (show EAt (w.alloc (.cells (evc e) 50)) w.heap.size e from heap_new _ _)
 have FI := hide fun u (h : EAt u w.heap.size e) => fields_any w.heap.size e u h
 have BA := hide (below_alloc w (.cells (evc e) 50))
 have YES : Hid ((∀ j, j < 5 → okA e j = true) → okF e = true) := okF_yes
 have NO : Hid (∀ j, j < 5 → okA e j = false → okF e = false) := fun _ h1 h2 => okF_no h1 h2
 have OA : Hid (∀ j, okA e j = inS (nth (fl e) j) (nth (spn e) (j * 2)) (nth (spn e) (j * 2 + 1))) := fun _ => rfl
 have SL := hide (spn_len e)
 generalize chk e = ck at CK ⊢
 generalize ff e = f0 at FF CK
 generalize okF e = o0 at CK YES NO
 generalize okA e = oA at YES NO OA
 generalize spn e = sp at SP OA SL
 have hE := hide (show evc e = #[.int .i64 e.k, .int .i64 e.g, .int .i64 e.c, .int .i64 e.a, .int .i64 e.v, .int .i64 e.m, .bool e.s, .bool e.o] from rfl)
 obtain ⟨k, g, c, a, v, m, s, o⟩ := e
 simp only at CK SP hE
 unfold evv evc at FF SP ⊢
 simp only [evc] at BA
 have EN' : Hid ((w.alloc (.cells #[.int .i64 k, .int .i64 g, .int .i64 c, .int .i64 a, .int .i64 v, .int .i64 m, .bool s, .bool o] 50)).heap[w.heap.size]? = some (.cells #[.int .i64 k, .int .i64 g, .int .i64 c, .int .i64 a, .int .i64 v, .int .i64 m, .bool s, .bool o] 50)) := EN.out
 simp only [fl] at OA
 by_cases hk : k < 1 ∨ 13 < k
 ·rw [if_pos hk] at CK
  obtain rfl := CK.out
  by_cases h1 : k < 1
  ·have d1 : decide (k < 1) = true := decide_eq_true h1
   clear hk CK
   go_enter Tryz.func157, Tryz.ntmps157
   go_wp2_with fail
   go_ret
   exact ⟨rfl, BA.out⟩
  ·have d1 : decide (k < 1) = false := decide_eq_false h1
   have d2 : decide (13 < k) = true := decide_eq_true (by omega)
   clear hk CK
   go_enter Tryz.func157, Tryz.ntmps157
   go_wp2_with fail
   go_ret
   exact ⟨rfl, BA.out⟩
 rw [if_neg hk] at CK
 have d1 : decide (k < 1) = false := decide_eq_false (by omega)
 have d2 : decide (13 < k) = false := decide_eq_false (by omega)
 have SP2 := hide fun u => SP.out u (by omega) (by omega)
 clear hk SP
 cases f0
 ·simp only [Bool.false_and, Bool.false_eq_true, if_false] at CK
  obtain rfl := CK.out
  clear CK
  go_enter Tryz.func157, Tryz.ntmps157
  go_wp2_with fail
  refine (FF.out _).mono ?_
  rintro r w1 ⟨rfl, b1⟩
  have B1 := hide (btr BA.out b1)
  clear b1
  go_wp2_with fail
  go_ret
  exact ⟨rfl, B1.out⟩
 simp only [Bool.true_and] at CK
 go_enter Tryz.func157, Tryz.ntmps157
 go_wp2_with fail
 refine (FF.out _).mono ?_
 rintro r w1 ⟨rfl, b1⟩
 have B1 := hide (btr BA.out b1)
 have E1 := hide (heap_below EN'.out b1)
 clear b1 BA EN EN'
 generalize hN : w.heap.size = N at E1 FI ⊢
 have HN := hide hN
 clear hN
 have y0 : w1.cell? ⟨N, 0, none⟩ = some (.int .i64 k) := cell_of E1.out 0
 have y1 : w1.cell? ⟨N, 1, none⟩ = some (.int .i64 g) := cell_of E1.out 1
 have y2 : w1.cell? ⟨N, 2, none⟩ = some (.int .i64 c) := cell_of E1.out 2
 have y3 : w1.cell? ⟨N, 3, none⟩ = some (.int .i64 a) := cell_of E1.out 3
 have y4 : w1.cell? ⟨N, 4, none⟩ = some (.int .i64 v) := cell_of E1.out 4
 have y5 : w1.cell? ⟨N, 5, none⟩ = some (.int .i64 m) := cell_of E1.out 5
 have y6 : w1.cell? ⟨N, 6, none⟩ = some (.bool s) := cell_of E1.out 6
 have y7 : w1.cell? ⟨N, 7, none⟩ = some (.bool o) := cell_of E1.out 7
 go_wp2_with fail
 refine (SP2.out _).mono ?_
 rintro r w2 ⟨rfl, b2⟩
 have B2 := hide (btr B1.out b2)
 have E2 := hide (heap_below E1.out b2)
 clear b2 B1 E1 y0 y1 y2 y3 y4 y5 y6 y7 SP2 FF
 obtain ⟨p0, p1, p2, p3, p4, p5, p6, p7, p8, p9, rfl⟩ : ∃ p0 p1 p2 p3 p4 p5 p6 p7 p8 p9, sp = [p0, p1, p2, p3, p4, p5, p6, p7, p8, p9] := by
  have h := SL.out
  match sp, h with
  | [p0, p1, p2, p3, p4, p5, p6, p7, p8, p9], _ => exact ⟨p0, p1, p2, p3, p4, p5, p6, p7, p8, p9, rfl⟩
 have b3 := below_alloc w2 (.cells (row [p0, p1, p2, p3, p4, p5, p6, p7, p8, p9]) 244)
 have R3 := hide (heap_new w2 (.cells (row [p0, p1, p2, p3, p4, p5, p6, p7, p8, p9]) 244))
 have B3 := hide (btr B2.out b3)
 have E3 := hide (heap_below E2.out b3)
 clear b3 B2 E2
 simp only [row, List.map_cons, List.map_nil] at R3 B3 E3 ⊢
 go_wp2_with fail
 generalize w2.alloc (.cells #[.int .i64 p0, .int .i64 p1, .int .i64 p2, .int .i64 p3, .int .i64 p4, .int .i64 p5, .int .i64 p6, .int .i64 p7, .int .i64 p8, .int .i64 p9] 244) = W3 at R3 B3 E3 ⊢
 generalize w2.heap.size = R at R3 ⊢
 refine (FI.out _ E3.out).mono ?_
 rintro r w4 ⟨rfl, b4⟩
 have B4 := hide (btr B3.out b4)
 have E4 := hide (heap_below E3.out b4)
 have R4 := hide (heap_below R3.out b4)
 clear b4 B3 E3 R3 FI
 have hNR : N < w4.heap.size := Ba.heap_lt E4.out
 go_wp2_with fail
 go_loopw [20] (fun i wr => ∃ j : Nat, j ≤ 5 ∧ i = .int .i64 j ∧ (∀ q, q < j → oA q = true) ∧ Below w4.heap.size w4 wr) (fun i _ => 5 - (intOf i).toNat)
 case atStart => exact ⟨0, Nat.zero_le _, rfl, fun q hq => absurd hq (Nat.not_lt_zero _), Below.refl _ _⟩
 case round =>
  obtain ⟨j, hj, rfl, hall, b5⟩ := hrel
  have HALL := hide hall
  have B5 := hide b5
  have E5 := hide (heap_below E4.out b5)
  have R5 := hide (heap_below R4.out b5)
  clear hall b5
  have hjj : j = 0 ∨ j = 1 ∨ j = 2 ∨ j = 3 ∨ j = 4 ∨ j = 5 := by omega
  rcases hjj with rfl | rfl | rfl | rfl | rfl | rfl
  ·have r0 : wr.cell? ⟨R, 0, none⟩ = some (.int .i64 p0) := cell_of R5.out 0
   have r1 : wr.cell? ⟨R, 1, none⟩ = some (.int .i64 p1) := cell_of R5.out 1
   have hix : ∀ u, (Instr.index 246 (.agg #[.pointer (some ⟨N, 1, none⟩), .pointer (some ⟨N, 2, none⟩), .pointer (some ⟨N, 3, none⟩), .pointer (some ⟨N, 4, none⟩), .pointer (some ⟨N, 5, none⟩)]) (.int .i64 0)).run Tryz.prog u = .ok (.pointer (some ⟨N, 1, none⟩)) u := fun _ => by kernel_rfl
   have x0 : wr.cell? ⟨N, 1, none⟩ = some (.int .i64 g) := cell_of E5.out 1
   have O1 : Hid (oA 0 = inS g p0 p1) := OA.out 0
   generalize hO : oA 0 = ob at O1
   have HO := hide hO
   clear hO
   cases ob
   ·obtain rfl := (NO.out 0 (by decide) HO.out)
    obtain rfl := CK.out
    go_wp2_with fail
    go_region_held3 (fun w' => w'.cell? ⟨R, 0, none⟩ = some (.int .i64 p0) ∧ w'.cell? ⟨R, 1, none⟩ = some (.int .i64 p1) ∧ w'.cell? ⟨N, 1, none⟩ = some (.int .i64 g))
     (first
       | (go_split_ands; refine ⟨?_, ?_, ?_⟩ <;> (with_reducible (refine cellB ?_ c6)) <;> with_reducible assumption)
       | go_keep)
     ((go_at_call 176; refine (has_any p0 p1 g _).mono ?_; rw [← O1.out]; rintro r w6 ⟨rfl, c6⟩))
    have B6 := hide (btr B4.out (btr B5.out (btr (bdrew1 _) c6)))
    clear c6
    go_wp2_with fail
    go_ret
    exact ⟨rfl, B6.out⟩
   ·skip
    go_wp2_with fail
    go_region_held3 (fun w' => w'.cell? ⟨R, 0, none⟩ = some (.int .i64 p0) ∧ w'.cell? ⟨R, 1, none⟩ = some (.int .i64 p1) ∧ w'.cell? ⟨N, 1, none⟩ = some (.int .i64 g))
     (first
       | (go_split_ands; refine ⟨?_, ?_, ?_⟩ <;> (with_reducible (refine cellB ?_ c6)) <;> with_reducible assumption)
       | go_keep)
     ((go_at_call 176; refine (has_any p0 p1 g _).mono ?_; rw [← O1.out]; rintro r w6 ⟨rfl, c6⟩))
    have B6 := hide (btr B5.out (btr (bdrew1 _) c6))
    clear c6
    go_wp2_with fail
    go_roundw
    case rel => exact ⟨1, by decide, by go_num, fun q hq => by
     by_cases e : q = 0
     ·subst e; exact HO.out
     ·exact HALL.out q (by omega), B6.out⟩
    case measure => simp [intOf]
  ·have r0 : wr.cell? ⟨R, 2, none⟩ = some (.int .i64 p2) := cell_of R5.out 2
   have r1 : wr.cell? ⟨R, 3, none⟩ = some (.int .i64 p3) := cell_of R5.out 3
   have hix : ∀ u, (Instr.index 246 (.agg #[.pointer (some ⟨N, 1, none⟩), .pointer (some ⟨N, 2, none⟩), .pointer (some ⟨N, 3, none⟩), .pointer (some ⟨N, 4, none⟩), .pointer (some ⟨N, 5, none⟩)]) (.int .i64 1)).run Tryz.prog u = .ok (.pointer (some ⟨N, 2, none⟩)) u := fun _ => by kernel_rfl
   have x0 : wr.cell? ⟨N, 2, none⟩ = some (.int .i64 c) := cell_of E5.out 2
   have O1 : Hid (oA 1 = inS c p2 p3) := OA.out 1
   generalize hO : oA 1 = ob at O1
   have HO := hide hO
   clear hO
   cases ob
   ·obtain rfl := (NO.out 1 (by decide) HO.out)
    obtain rfl := CK.out
    go_wp2_with fail
    go_region_held3 (fun w' => w'.cell? ⟨R, 2, none⟩ = some (.int .i64 p2) ∧ w'.cell? ⟨R, 3, none⟩ = some (.int .i64 p3) ∧ w'.cell? ⟨N, 2, none⟩ = some (.int .i64 c))
     (first
       | (go_split_ands; refine ⟨?_, ?_, ?_⟩ <;> (with_reducible (refine cellB ?_ c6)) <;> with_reducible assumption)
       | go_keep)
     ((go_at_call 176; refine (has_any p2 p3 c _).mono ?_; rw [← O1.out]; rintro r w6 ⟨rfl, c6⟩))
    have B6 := hide (btr B4.out (btr B5.out (btr (bdrew1 _) c6)))
    clear c6
    go_wp2_with fail
    go_ret
    exact ⟨rfl, B6.out⟩
   ·skip
    go_wp2_with fail
    go_region_held3 (fun w' => w'.cell? ⟨R, 2, none⟩ = some (.int .i64 p2) ∧ w'.cell? ⟨R, 3, none⟩ = some (.int .i64 p3) ∧ w'.cell? ⟨N, 2, none⟩ = some (.int .i64 c))
     (first
       | (go_split_ands; refine ⟨?_, ?_, ?_⟩ <;> (with_reducible (refine cellB ?_ c6)) <;> with_reducible assumption)
       | go_keep)
     ((go_at_call 176; refine (has_any p2 p3 c _).mono ?_; rw [← O1.out]; rintro r w6 ⟨rfl, c6⟩))
    have B6 := hide (btr B5.out (btr (bdrew1 _) c6))
    clear c6
    go_wp2_with fail
    go_roundw
    case rel => exact ⟨2, by decide, by go_num, fun q hq => by
     by_cases e : q = 1
     ·subst e; exact HO.out
     ·exact HALL.out q (by omega), B6.out⟩
    case measure => simp [intOf]
  ·have r0 : wr.cell? ⟨R, 4, none⟩ = some (.int .i64 p4) := cell_of R5.out 4
   have r1 : wr.cell? ⟨R, 5, none⟩ = some (.int .i64 p5) := cell_of R5.out 5
   have hix : ∀ u, (Instr.index 246 (.agg #[.pointer (some ⟨N, 1, none⟩), .pointer (some ⟨N, 2, none⟩), .pointer (some ⟨N, 3, none⟩), .pointer (some ⟨N, 4, none⟩), .pointer (some ⟨N, 5, none⟩)]) (.int .i64 2)).run Tryz.prog u = .ok (.pointer (some ⟨N, 3, none⟩)) u := fun _ => by kernel_rfl
   have x0 : wr.cell? ⟨N, 3, none⟩ = some (.int .i64 a) := cell_of E5.out 3
   have O1 : Hid (oA 2 = inS a p4 p5) := OA.out 2
   generalize hO : oA 2 = ob at O1
   have HO := hide hO
   clear hO
   cases ob
   ·obtain rfl := (NO.out 2 (by decide) HO.out)
    obtain rfl := CK.out
    go_wp2_with fail
    go_region_held3 (fun w' => w'.cell? ⟨R, 4, none⟩ = some (.int .i64 p4) ∧ w'.cell? ⟨R, 5, none⟩ = some (.int .i64 p5) ∧ w'.cell? ⟨N, 3, none⟩ = some (.int .i64 a))
     (first
       | (go_split_ands; refine ⟨?_, ?_, ?_⟩ <;> (with_reducible (refine cellB ?_ c6)) <;> with_reducible assumption)
       | go_keep)
     ((go_at_call 176; refine (has_any p4 p5 a _).mono ?_; rw [← O1.out]; rintro r w6 ⟨rfl, c6⟩))
    have B6 := hide (btr B4.out (btr B5.out (btr (bdrew1 _) c6)))
    clear c6
    go_wp2_with fail
    go_ret
    exact ⟨rfl, B6.out⟩
   ·skip
    go_wp2_with fail
    go_region_held3 (fun w' => w'.cell? ⟨R, 4, none⟩ = some (.int .i64 p4) ∧ w'.cell? ⟨R, 5, none⟩ = some (.int .i64 p5) ∧ w'.cell? ⟨N, 3, none⟩ = some (.int .i64 a))
     (first
       | (go_split_ands; refine ⟨?_, ?_, ?_⟩ <;> (with_reducible (refine cellB ?_ c6)) <;> with_reducible assumption)
       | go_keep)
     ((go_at_call 176; refine (has_any p4 p5 a _).mono ?_; rw [← O1.out]; rintro r w6 ⟨rfl, c6⟩))
    have B6 := hide (btr B5.out (btr (bdrew1 _) c6))
    clear c6
    go_wp2_with fail
    go_roundw
    case rel => exact ⟨3, by decide, by go_num, fun q hq => by
     by_cases e : q = 2
     ·subst e; exact HO.out
     ·exact HALL.out q (by omega), B6.out⟩
    case measure => simp [intOf]
  ·have r0 : wr.cell? ⟨R, 6, none⟩ = some (.int .i64 p6) := cell_of R5.out 6
   have r1 : wr.cell? ⟨R, 7, none⟩ = some (.int .i64 p7) := cell_of R5.out 7
   have hix : ∀ u, (Instr.index 246 (.agg #[.pointer (some ⟨N, 1, none⟩), .pointer (some ⟨N, 2, none⟩), .pointer (some ⟨N, 3, none⟩), .pointer (some ⟨N, 4, none⟩), .pointer (some ⟨N, 5, none⟩)]) (.int .i64 3)).run Tryz.prog u = .ok (.pointer (some ⟨N, 4, none⟩)) u := fun _ => by kernel_rfl
   have x0 : wr.cell? ⟨N, 4, none⟩ = some (.int .i64 v) := cell_of E5.out 4
   have O1 : Hid (oA 3 = inS v p6 p7) := OA.out 3
   generalize hO : oA 3 = ob at O1
   have HO := hide hO
   clear hO
   cases ob
   ·obtain rfl := (NO.out 3 (by decide) HO.out)
    obtain rfl := CK.out
    go_wp2_with fail
    go_region_held3 (fun w' => w'.cell? ⟨R, 6, none⟩ = some (.int .i64 p6) ∧ w'.cell? ⟨R, 7, none⟩ = some (.int .i64 p7) ∧ w'.cell? ⟨N, 4, none⟩ = some (.int .i64 v))
     (first
       | (go_split_ands; refine ⟨?_, ?_, ?_⟩ <;> (with_reducible (refine cellB ?_ c6)) <;> with_reducible assumption)
       | go_keep)
     ((go_at_call 176; refine (has_any p6 p7 v _).mono ?_; rw [← O1.out]; rintro r w6 ⟨rfl, c6⟩))
    have B6 := hide (btr B4.out (btr B5.out (btr (bdrew1 _) c6)))
    clear c6
    go_wp2_with fail
    go_ret
    exact ⟨rfl, B6.out⟩
   ·skip
    go_wp2_with fail
    go_region_held3 (fun w' => w'.cell? ⟨R, 6, none⟩ = some (.int .i64 p6) ∧ w'.cell? ⟨R, 7, none⟩ = some (.int .i64 p7) ∧ w'.cell? ⟨N, 4, none⟩ = some (.int .i64 v))
     (first
       | (go_split_ands; refine ⟨?_, ?_, ?_⟩ <;> (with_reducible (refine cellB ?_ c6)) <;> with_reducible assumption)
       | go_keep)
     ((go_at_call 176; refine (has_any p6 p7 v _).mono ?_; rw [← O1.out]; rintro r w6 ⟨rfl, c6⟩))
    have B6 := hide (btr B5.out (btr (bdrew1 _) c6))
    clear c6
    go_wp2_with fail
    go_roundw
    case rel => exact ⟨4, by decide, by go_num, fun q hq => by
     by_cases e : q = 3
     ·subst e; exact HO.out
     ·exact HALL.out q (by omega), B6.out⟩
    case measure => simp [intOf]
  ·have r0 : wr.cell? ⟨R, 8, none⟩ = some (.int .i64 p8) := cell_of R5.out 8
   have r1 : wr.cell? ⟨R, 9, none⟩ = some (.int .i64 p9) := cell_of R5.out 9
   have hix : ∀ u, (Instr.index 246 (.agg #[.pointer (some ⟨N, 1, none⟩), .pointer (some ⟨N, 2, none⟩), .pointer (some ⟨N, 3, none⟩), .pointer (some ⟨N, 4, none⟩), .pointer (some ⟨N, 5, none⟩)]) (.int .i64 4)).run Tryz.prog u = .ok (.pointer (some ⟨N, 5, none⟩)) u := fun _ => by kernel_rfl
   have x0 : wr.cell? ⟨N, 5, none⟩ = some (.int .i64 m) := cell_of E5.out 5
   have O1 : Hid (oA 4 = inS m p8 p9) := OA.out 4
   generalize hO : oA 4 = ob at O1
   have HO := hide hO
   clear hO
   cases ob
   ·obtain rfl := (NO.out 4 (by decide) HO.out)
    obtain rfl := CK.out
    go_wp2_with fail
    go_region_held3 (fun w' => w'.cell? ⟨R, 8, none⟩ = some (.int .i64 p8) ∧ w'.cell? ⟨R, 9, none⟩ = some (.int .i64 p9) ∧ w'.cell? ⟨N, 5, none⟩ = some (.int .i64 m))
     (first
       | (go_split_ands; refine ⟨?_, ?_, ?_⟩ <;> (with_reducible (refine cellB ?_ c6)) <;> with_reducible assumption)
       | go_keep)
     ((go_at_call 176; refine (has_any p8 p9 m _).mono ?_; rw [← O1.out]; rintro r w6 ⟨rfl, c6⟩))
    have B6 := hide (btr B4.out (btr B5.out (btr (bdrew1 _) c6)))
    clear c6
    go_wp2_with fail
    go_ret
    exact ⟨rfl, B6.out⟩
   ·skip
    go_wp2_with fail
    go_region_held3 (fun w' => w'.cell? ⟨R, 8, none⟩ = some (.int .i64 p8) ∧ w'.cell? ⟨R, 9, none⟩ = some (.int .i64 p9) ∧ w'.cell? ⟨N, 5, none⟩ = some (.int .i64 m))
     (first
       | (go_split_ands; refine ⟨?_, ?_, ?_⟩ <;> (with_reducible (refine cellB ?_ c6)) <;> with_reducible assumption)
       | go_keep)
     ((go_at_call 176; refine (has_any p8 p9 m _).mono ?_; rw [← O1.out]; rintro r w6 ⟨rfl, c6⟩))
    have B6 := hide (btr B5.out (btr (bdrew1 _) c6))
    clear c6
    go_wp2_with fail
    go_roundw
    case rel => exact ⟨5, by decide, by go_num, fun q hq => by
     by_cases e : q = 4
     ·subst e; exact HO.out
     ·exact HALL.out q (by omega), B6.out⟩
    case measure => simp [intOf]
  ·obtain rfl := (YES.out HALL.out)
   obtain rfl := CK.out
   go_wp2_with fail
   go_ret
   exact ⟨rfl, btr B4.out B5.out⟩
end En
end Go.Proofs.YtblfimobiibmjaaGreat
