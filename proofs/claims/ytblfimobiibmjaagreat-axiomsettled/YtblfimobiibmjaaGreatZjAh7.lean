import Derived.Test.YtblfimobiibmjaaGreatZjAh6
import Derived.Maps.AppendAt
import Derived.Deep.Cut
import Derived.Deep.DeepCutAuto
import Derived.Deep.RegionHeld3
import Derived.Sort.Grow
import Derived.Deep.QuietTactic
import Derived.BigQuiet
import Derived.Lib.Slices
import Derived.Lib.SliceRun
namespace Go.Proofs.YtblfimobiibmjaaGreat
open Go.ChangeShapes Go.WideShapes Go.ChangeAt Go.RowKit
namespace Eg
open En Gu Ba
def edc (l : List Ed) : List Value := l.flatMap fun x => [.int .i64 (x.f : Int), .int .i64 (x.t : Int), .int .i64 (x.r : Int)]
def dlc (l : List (Nat × Nat)) : List Value := l.flatMap fun x => [.int .i64 (x.1 : Int), .int .i64 (x.2 : Int)]
theorem edc_app (l m : List Ed) : edc (l ++ m) = edc l ++ edc m := by simp [edc]
theorem dlc_app (l m : List (Nat × Nat)) : dlc (l ++ m) = dlc l ++ dlc m := by simp [dlc]
theorem edc_one (l : List Ed) : ∀ u ∈ edc l, u.oneCell' = true := by
 intro u hu
 simp only [edc, List.mem_flatMap] at hu
 obtain ⟨e, _, hu⟩ := hu
 simp at hu
 rcases hu with rfl | rfl | rfl <;> rfl
theorem dlc_one (l : List (Nat × Nat)) : ∀ u ∈ dlc l, u.oneCell' = true := by
 intro u hu
 simp only [dlc, List.mem_flatMap] at hu
 obtain ⟨e, _, hu⟩ := hu
 simp at hu
 rcases hu with rfl | rfl <;> rfl
theorem edc_len (l : List Ed) : (edc l).length = l.length * 3 := by
 induction l with
 | nil => rfl
 | cons e l ih => simp [edc] at ih ⊢; omega
theorem dlc_len (l : List (Nat × Nat)) : (dlc l).length = l.length * 2 := by
 induction l with
 | nil => rfl
 | cons e l ih => simp [dlc] at ih ⊢; omega
theorem edc_at : ∀ (l : List Ed) (k : Nat) (x : Ed), l[k]? = some x → (edc l)[k * 3]? = some (.int .i64 (x.f : Int)) ∧ (edc l)[k * 3 + 1]? = some (.int .i64 (x.t : Int)) ∧ (edc l)[k * 3 + 2]? = some (.int .i64 (x.r : Int))
 | [], _, _, hk => by simp at hk
 | y :: l, 0, x, hk => by
   simp at hk
   subst hk
   exact ⟨rfl, rfl, rfl⟩
 | y :: l, k + 1, x, hk => by
   obtain ⟨a, b, c⟩ := edc_at l k x (by simpa using hk)
   have e : edc (y :: l) = .int .i64 (y.f : Int) :: .int .i64 (y.t : Int) :: .int .i64 (y.r : Int) :: edc l := rfl
   rw [e, show (k + 1) * 3 = k * 3 + 1 + 1 + 1 by omega]
   exact ⟨a, b, c⟩
theorem dlc_at : ∀ (l : List (Nat × Nat)) (k : Nat) (x : Nat × Nat), l[k]? = some x → (dlc l)[k * 2]? = some (.int .i64 (x.1 : Int)) ∧ (dlc l)[k * 2 + 1]? = some (.int .i64 (x.2 : Int))
 | [], _, _, hk => by simp at hk
 | y :: l, 0, x, hk => by
   simp at hk
   subst hk
   exact ⟨rfl, rfl⟩
 | y :: l, k + 1, x, hk => by
   obtain ⟨a, b⟩ := dlc_at l k x (by simpa using hk)
   have e : dlc (y :: l) = .int .i64 (y.1 : Int) :: .int .i64 (y.2 : Int) :: dlc l := rfl
   rw [e, show (k + 1) * 2 = k * 2 + 1 + 1 by omega]
   exact ⟨a, b⟩
theorem own_keep {w w' : World} {base : Nat} {e : TypeId} {size : Nat} {v : Value} {n : Nat} {xs : List Value} (h : w.ownsRow base e size v n xs) (hk : ∀ g, base ≤ g → g < w.heap.size → w'.heap[g]? = w.heap[g]?) : w'.ownsRow base e size v n xs := by
 refine ⟨h.1, ?_⟩
 rcases h.2 with q | ⟨g, cap, cur, q1, q2, q3, q4⟩
 ·exact .inl q
 ·exact .inr ⟨g, cap, cur, q1, q2, (hk g q2 (heap_lt q3)).trans q3, q4⟩
theorem own_below {w w' : World} {base : Nat} {e : TypeId} {size : Nat} {v : Value} {n : Nat} {xs : List Value} (h : w.ownsRow base e size v n xs) (hb : Below w.heap.size w w') : w'.ownsRow base e size v n xs := own_keep h fun g _ hg => hb.block g hg
theorem own_sl {w : World} {base : Nat} {e : TypeId} {size : Nat} {v : Value} {n : Nat} {xs : List Value} (h : w.ownsRow base e size v n xs) : ∃ oa c, v = .slice oa n c := by
 rcases h.2 with ⟨rfl, rfl⟩ | ⟨b, cap, cur, rfl, _⟩
 ·exact ⟨none, 0, rfl⟩
 ·exact ⟨_, _, rfl⟩
theorem own_cells {w : World} {base : Nat} {e : TypeId} {size : Nat} {oa : Option Addr} {c n : Nat} {xs : List Value} (h : w.ownsRow base e size (.slice oa n c) n xs) (hn : 0 < n) : ∃ g, oa = some ⟨g, 0, none⟩ ∧ base ≤ g ∧ g < w.heap.size ∧ ∀ j u, xs[j]? = some u → w.cell? ⟨g, j, none⟩ = some u := by
 rcases h.2 with ⟨_, q⟩ | ⟨g, cap, cur, q1, q2, q3, q4, q5, q6, q7⟩
 ·omega
 ·cases q1
  refine ⟨g, rfl, q2, heap_lt q3, fun j u hj => ?_⟩
  have hl := (List.getElem?_eq_some_iff.1 hj).1
  rw [cell_of q3]
  rw [← q7, List.getElem?_take] at hj
  split at hj
  ·simpa using hj
  ·cases hj
theorem grown_below {w w' : World} {base : Nat} {v : Value} (hg : w.grownBy w' v.ownBlock) (hv : ∀ g, v.ownBlock = some g → base ≤ g) (hb : base ≤ w.heap.size) : Below base w w' := by
 refine ⟨hg.os, hg.tape, hg.output, hg.size, fun k hk => hg.block k (by omega) (fun q => ?_)⟩
 have := hv k q.symm
 omega
theorem own_base {w : World} {base : Nat} {e : TypeId} {size : Nat} {v : Value} {n : Nat} {xs : List Value} (h : w.ownsRow base e size v n xs) : ∀ g, v.ownBlock = some g → base ≤ g := by
 intro g hg
 rcases h.2 with ⟨rfl, _⟩ | ⟨b, cap, cur, rfl, q, _⟩
 ·simp [Value.ownBlock] at hg
 ·simp [Value.ownBlock] at hg
  omega
theorem info_ed0 : (Tryz.prog.info? 70).map (fun i => (i.zero, i.size, i.bytes)) = some (some (.agg #[.int .i64 0, .int .i64 0, .int .i64 0]), 3, 24) := by kernel_rfl
theorem info_dt0 : (Tryz.prog.info? 125).map (fun i => (i.zero, i.size, i.bytes)) = some (some (.agg #[.int .i64 0, .int .i64 0]), 2, 16) := by kernel_rfl
theorem info_ex {t : TypeId} {z : Value} {s b : Nat} (h : (Tryz.prog.info? t).map (fun i => (i.zero, i.size, i.bytes)) = some (some z, s, b)) : ∃ i0, Tryz.prog.info? t = some i0 ∧ i0.zero = some z ∧ i0.size = s ∧ i0.bytes = b := by
 cases hi : Tryz.prog.info? t with
 | none => rw [hi] at h; cases h
 | some i0 =>
   rw [hi] at h
   simp at h
   exact ⟨i0, rfl, h⟩
theorem app_ed (w : World) (base : Nat) (v : Value) (l fs : List Ed) (n : Nat) (hn : n = l.length) (hown : w.ownsRow base 70 3 v n (edc l)) (a : Addr) (m cc : Nat) (hm : m = fs.length) (hnews : ∀ j u, (edc fs)[j]? = some u → w.cell? (a.add j) = some u) (hl : n + m ≤ 100000000) (hb : base ≤ w.heap.size) :
 ∃ ea' c' w', (Builtin.append_ #[24, 24] 24 #[v, .slice (some a) m cc]).run Tryz.prog w = .ok (.slice ea' (n + m) c') w' ∧ w'.ownsRow base 70 3 (.slice ea' (n + m) c') (n + m) (edc (l ++ fs)) ∧ w.grownBy w' v.ownBlock ∧ Below base w w' := by
 obtain ⟨i0, hi, hz, hs, hby⟩ := info_ex info_ed0
 obtain ⟨v', w', hr, ho, hg, _, _⟩ := run_append_own_at (P := Tryz.prog) w base 24 24 70 i0 _ 3 24 Tryz.underlying24 hi hz hs hby rfl (by decide) _ _ _ hown a m cc (edc fs) (by rw [edc_len, hm]) hnews (edc_one _) (by unfold maxLen; omega) (by omega) hb
 rw [← edc_app] at ho
 obtain ⟨ea', c', rfl⟩ := own_sl ho
 exact ⟨ea', c', w', hr, ho, hg, grown_below hg (own_base hown) hb⟩
theorem app_dl (w : World) (base : Nat) (v : Value) (l fs : List (Nat × Nat)) (n : Nat) (hn : n = l.length) (hown : w.ownsRow base 125 2 v n (dlc l)) (a : Addr) (m cc : Nat) (hm : m = fs.length) (hnews : ∀ j u, (dlc fs)[j]? = some u → w.cell? (a.add j) = some u) (hl : n + m ≤ 100000) (hb : base ≤ w.heap.size) :
 ∃ ea' c' w', (Builtin.append_ #[121, 121] 121 #[v, .slice (some a) m cc]).run Tryz.prog w = .ok (.slice ea' (n + m) c') w' ∧ w'.ownsRow base 125 2 (.slice ea' (n + m) c') (n + m) (dlc (l ++ fs)) ∧ w.grownBy w' v.ownBlock ∧ Below base w w' ∧ ((Value.slice ea' (n + m) c').ownBlock = v.ownBlock ∨ (Value.slice ea' (n + m) c').ownBlock = some w.heap.size) := by
 obtain ⟨i0, hi, hz, hs, hby⟩ := info_ex info_dt0
 obtain ⟨v', w', hr, ho, hg, _, hat⟩ := run_append_own_at (P := Tryz.prog) w base 121 121 125 i0 _ 2 16 Tryz.underlying121 hi hz hs hby rfl (by decide) _ _ _ hown a m cc (dlc fs) (by rw [dlc_len, hm]) hnews (dlc_one _) (by unfold maxLen; omega) (by omega) hb
 rw [← dlc_app] at ho
 obtain ⟨ea', c', rfl⟩ := own_sl ho
 exact ⟨ea', c', w', hr, ho, hg, grown_below hg (own_base hown) hb, hat⟩
theorem mk_ed (w : World) (n : Nat) (hn : n ≤ 100000) : (Instr.makeSlice 24 (.int .i64 (n : Int)) (.int .i64 (n : Int))).run Tryz.prog w = .ok (.slice (some ⟨w.heap.size, 0, none⟩) n n) (w.alloc (.cells (madeCells #[.int .i64 0, .int .i64 0, .int .i64 0] (n * 3)) 70)) := by
 obtain ⟨i0, hi, hz, hs, hby⟩ := info_ex info_ed0
 have := run_mkG (Tryz.underlying24) hi hz w n (by rw [hby]; omega) (by omega)
 rw [hs] at this
 exact this
theorem made3 (n g : Nat) (h : g < n) : (madeCells #[Value.int .i64 0, .int .i64 0, .int .i64 0] (n * 3))[g * 3]? = some (.int .i64 0) ∧ (madeCells #[Value.int .i64 0, .int .i64 0, .int .i64 0] (n * 3))[g * 3 + 1]? = some (.int .i64 0) ∧ (madeCells #[Value.int .i64 0, .int .i64 0, .int .i64 0] (n * 3))[g * 3 + 2]? = some (.int .i64 0) := by
 unfold madeCells
 have e0 : (g * 3) % 3 = 0 := by omega
 have e1 : (g * 3 + 1) % 3 = 1 := by omega
 have e2 : (g * 3 + 2) % 3 = 2 := by omega
 have h0 : g * 3 < n * 3 := by omega
 have h1 : g * 3 + 1 < n * 3 := by omega
 have h2 : g * 3 + 2 < n * 3 := by omega
 simp [e0, e1, e2, h0, h1, h2]
end Eg
end Go.Proofs.YtblfimobiibmjaaGreat
namespace Go.Proofs.YtblfimobiibmjaaGreat
open Go.ChangeShapes Go.WideShapes Go.ChangeAt Go.RowKit
namespace Eg
open En Gu Ba
theorem there_le (l : List Ev) : there l ≤ l.length + 1 := by
 unfold there
 have := List.countP_le_length (p := fun x : Ev => decide (x.k = 1)) (l := l)
 omega
theorem gor_take {l : List Ev} (h : Tok l) (hl : l.length ≤ 2000) : ∀ i, i ≤ l.length → max 1 (Gc.cntF (fun e => e.k == 1) (fun e => e.m) (l.take i)) = (there (l.take i) : Int)
 | 0, _ => by
   show max (1 : Int) 0 = 1
   decide
 | i + 1, hi => by
   obtain ⟨e, he⟩ : ∃ e, l[i]? = some e := ⟨_, List.getElem?_eq_getElem (by omega)⟩
   have ih := gor_take h hl i (by omega)
   rw [Gc.cntF_take _ _ _ _ _ he, there_take he]
   unfold Gc.cntS
   have hb := there_le (l.take i)
   have hb2 : (l.take i).length ≤ 2000 := by rw [List.length_take]; omega
   by_cases hk : e.k = 1
   ·have hm := h.cw.m he hk
    simp only [hk, beq_self_eq_true, true_and, if_true]
    rw [if_pos (by rw [hm]; omega), hm]
    omega
   ·have hk2 : (e.k == 1) = false := by simp [hk]
    simp only [hk2, if_neg hk, Bool.false_eq_true, false_and, if_false]
    omega
theorem gor_is {l : List Ev} (h : Tok l) (hl : l.length ≤ 2000) : max 1 (Gc.cntF (fun e => e.k == 1) (fun e => e.m) l) = (there l : Int) := by
 have := gor_take h hl l.length (Nat.le_refl _)
 rwa [List.take_length] at this
theorem mkN_le (l : List Ev) : mkN l ≤ l.length := List.countP_le_length
theorem mkN_take {l : List Ev} {i : Nat} {e : Ev} (h : l[i]? = some e) : mkN (l.take (i + 1)) = mkN (l.take i) + if e.k = 2 then 1 else 0 := by
 rw [take_succ h]
 unfold mkN
 simp only [List.countP_append, List.countP_cons, List.countP_nil, decide_eq_true_eq]
 omega
theorem Tok.make {l : List Ev} (h : Tok l) {i : Nat} {e : Ev} (he : l[i]? = some e) : (e.k = 2 → e.c = (mkN (l.take i) : Int)) ∧ (e.k ≠ 2 → e.c < (mkN (l.take i) : Int)) := by
 have q := (h.at he).md
 unfold made at q
 constructor
 ·intro hk
  rw [if_pos hk] at q
  simpa [mkN] using q
 ·intro hk
  rw [if_neg hk] at q
  simpa [mkN] using q
theorem chn_take {l : List Ev} (h : Tok l) (hl : l.length ≤ 2000) : ∀ i, i ≤ l.length → max 0 (Gc.cntF (fun e => e.k == 2) (fun e => e.c) (l.take i)) = (mkN (l.take i) : Int)
 | 0, _ => by simp [Gc.cntF, mkN]
 | i + 1, hi => by
   obtain ⟨e, he⟩ : ∃ e, l[i]? = some e := ⟨_, List.getElem?_eq_getElem (by omega)⟩
   have ih := chn_take h hl i (by omega)
   rw [Gc.cntF_take _ _ _ _ _ he, mkN_take he]
   unfold Gc.cntS
   have hb := mkN_le (l.take i)
   have hb2 : (l.take i).length ≤ 2000 := by rw [List.length_take]; omega
   by_cases hk : e.k = 2
   ·have hm := (h.make he).1 hk
    simp only [hk, beq_self_eq_true, true_and, if_true]
    rw [if_pos (by rw [hm]; omega), hm]
    omega
   ·have hk2 : (e.k == 2) = false := by simp [hk]
    simp only [hk2, if_neg hk, Bool.false_eq_true, false_and, if_false]
    omega
theorem chn_is {l : List Ev} (h : Tok l) (hl : l.length ≤ 2000) : max 0 (Gc.cntF (fun e => e.k == 2) (fun e => e.c) l) = (mkN l : Int) := by
 have := chn_take h hl l.length (Nat.le_refl _)
 rwa [List.take_length] at this
theorem Tok.gl {l : List Ev} (h : Tok l) {i : Nat} {e : Ev} (he : l[i]? = some e) (hk : e.k ≠ 13) : ∃ g : Nat, e.g = (g : Int) ∧ g < there l := by
 have h0 := h.cw.g i e he hk
 have h1 := h.cw.lt he hk
 have hi := (List.getElem?_eq_some_iff.1 he).1
 have := there_mono l (i := i) (j := l.length) (by omega)
 rw [List.take_length] at this
 exact ⟨e.g.toNat, by omega, by omega⟩
theorem Tok.ml {l : List Ev} (h : Tok l) {i : Nat} {e : Ev} (he : l[i]? = some e) (hk : e.k = 1) : ∃ g : Nat, e.m = (g : Int) ∧ g < there l := by
 have h1 := h.cw.m he hk
 have hi := (List.getElem?_eq_some_iff.1 he).1
 have := there_mono l (i := i + 1) (j := l.length) (by omega)
 rw [List.take_length, there_take he, if_pos hk] at this
 exact ⟨there (l.take i), h1, by omega⟩
theorem Tok.cl_ {l : List Ev} (h : Tok l) {i : Nat} {e : Ev} (he : l[i]? = some e) (hc : 0 ≤ e.c) : ∃ c : Nat, e.c = (c : Int) ∧ c < mkN l := by
 have hi := (List.getElem?_eq_some_iff.1 he).1
 have m1 := mkN_mono l (i := i + 1) (j := l.length) (by omega)
 rw [List.take_length, mkN_take he] at m1
 obtain ⟨a, b⟩ := h.make he
 by_cases hk : e.k = 2
 ·have := a hk
  rw [if_pos hk] at m1
  exact ⟨mkN (l.take i), this, by omega⟩
 ·have := b hk
  exact ⟨e.c.toNat, by omega, by omega⟩
theorem hw_g {l : List Ev} (h : Tok l) (i : Nat) (e : Ev) (he : l[i]? = some e) (_ : e.k = 1) : -9223372036854775808 ≤ e.m := by
 have := (h.at he).fit.m
 omega
theorem hw_c {l : List Ev} (h : Tok l) (i : Nat) (e : Ev) (he : l[i]? = some e) (hk : e.k = 2) : -9223372036854775808 ≤ e.c := by
 have := (h.at he).fit.c (.inl hk)
 omega
end Eg
end Go.Proofs.YtblfimobiibmjaaGreat
namespace Go.Proofs.YtblfimobiibmjaaGreat
open Go.ChangeShapes Go.WideShapes Go.ChangeAt Go.RowKit
namespace Ax
open En Gu Eg Ba
theorem below_kb {n D : Nat} {w a b : World} (h : Below n w a) (k : KB D a b) (hD : n ≤ D) (hs : n ≤ a.heap.size) : Below n w b :=
 ⟨k.os.trans h.os, k.tape.trans h.tape, k.output.trans h.output, Nat.le_trans h.size k.size, fun x hx => (k.block x (Nat.lt_of_lt_of_le hx hs) (by omega)).trans (h.block x hx)⟩
def IR (w : World) (A n : Nat) (f : Nat → Int) : Prop := ∃ cur, w.heap[A]? = some (.cells cur 3 (0, 0)) ∧ cur.size = n ∧ ∀ k, k < n → cur[k]? = some (.int .i64 (f k))
theorem IR.keep {w w' : World} {A n : Nat} {f : Nat → Int} (h : IR w A n f) (hk : w'.heap[A]? = w.heap[A]?) : IR w' A n f := by
 obtain ⟨cur, a, b⟩ := h
 exact ⟨cur, hk.trans a, b⟩
theorem IR.lt {w : World} {A n : Nat} {f : Nat → Int} (h : IR w A n f) : A < w.heap.size := by
 obtain ⟨cur, a, b⟩ := h
 exact heap_lt a
theorem IR.below {w w' : World} {A n : Nat} {f : Nat → Int} (h : IR w A n f) (hb : Below w.heap.size w w') : IR w' A n f := h.keep (hb.block A h.lt)
theorem IR.read {w : World} {A n : Nat} {f : Nat → Int} (h : IR w A n f) {k : Nat} (hk : k < n) : w.cell? ⟨A, k, none⟩ = some (.int .i64 (f k)) ∧ w.frozen? ⟨A, k, none⟩ = false := by
 obtain ⟨cur, a, b, c⟩ := h
 exact ⟨(cell_of a _).trans (c k hk), frozen_of a _⟩
theorem IR.put {w : World} {A n : Nat} {f : Nat → Int} (h : IR w A n f) (k : Nat) (v : Int) : IR (w.setCell ⟨A, k, none⟩ (.int .i64 v)) A n (fun x => if x = k then v else f x) := by
 obtain ⟨cur, a, b, c⟩ := h
 refine ⟨_, Ba.heap_setCell_same a _, by simp [b], fun x hx => ?_⟩
 by_cases e : x = k
 ·subst e
  simp only [if_true]
  rw [Array.getElem?_setIfInBounds_self_of_lt (by omega)]
 ·simp only [if_neg e]
  rw [Array.getElem?_setIfInBounds_ne (by omega)]
  exact c x hx
theorem IR.congr {w : World} {A n : Nat} {f f' : Nat → Int} (h : IR w A n f) (hf : ∀ x, x < n → f' x = f x) : IR w A n f' := by
 obtain ⟨cur, a, b, c⟩ := h
 exact ⟨cur, a, b, fun k hk => by rw [hf k hk]; exact c k hk⟩
theorem info_i : (Tryz.prog.info? 3).map (fun i => (i.zero, i.size, i.bytes)) = some (some (.int .i64 0), 1, 8) := by kernel_rfl
theorem mk_i (w : World) (n : Nat) (hn : n ≤ 1000000) : (Instr.makeSlice 67 (.int .i64 (n : Int)) (.int .i64 (n : Int))).run Tryz.prog w = .ok (.slice (some ⟨w.heap.size, 0, none⟩) n n) (w.alloc (.cells (madeCells #[.int .i64 0] n) 3)) := by
 obtain ⟨i0, hi, hz0, hz1, hz2⟩ := info_parts info_i
 have := run_make (P := Tryz.prog) w 67 3 i0 (.int .i64 0) Tryz.underlying67 hi hz0 .i64 .i64 n n (by omega) (Int.le_refl _) (by rw [hz2]; omega) (by omega)
 rw [hz1] at this
 simpa [Value.cells] using this
theorem made_at (z : Value) (n k : Nat) (h : k < n) : (madeCells #[z] n)[k]? = some z := by
 simp [madeCells, h, Nat.mod_one]
set_option maxHeartbeats 800000 in
theorem made_i (n : Nat) (w : World) : IR (w.alloc (.cells (madeCells #[.int .i64 0] n) 3)) w.heap.size n (fun _ => 0) :=
 ⟨_, heap_new _ _, by simp [size_madeCells], fun k hk => made_at _ n k hk⟩
theorem tell_tl (e : Ev) : tellB e = tl e := by rw [Bool.eq_iff_iff, tellB_iff, tl_iff]
def nuF (l : List Ev) (i : Nat) : Int := if live l i then (num l i (gof l i) : Int) else 0
structure NbI (w : World) (A B G : Nat) (l : List Ev) (iv : Value) (wr : World) (k : Nat) : Prop where
 le : k ≤ l.length
 iv : iv = .int .i64 (k : Int)
 bl : Below w.heap.size w wr
 ta : IR wr A G (fun g => (num l k (g : Int) : Int) - 1)
 nb : IR wr B l.length (fun i => if i < k then nuF l i else 0)
theorem NbI.skip {w : World} {A B G : Nat} {l : List Ev} {iv : Value} {wr : World} {k : Nat} (h : NbI w A B G l iv wr k) {e : Ev} (he : l[k]? = some e) (h13 : e.k = 13) {W : World} (b : Below wr.heap.size wr W) : NbI w A B G l (.int .i64 ((k : Int) + 1)) W (k + 1) := by
 have hk := lt_get he
 refine ⟨by omega, by simp, btr h.bl b, (h.ta.below b).congr fun x _ => ?_, (h.nb.below b).congr fun x _ => ?_⟩
 ·rw [num_succ he, if_neg (fun z => tells_live ((tl_iff e).1 z.2) h13)]; rfl
 ·by_cases q : x = k
  ·subst q
   rw [if_pos (by omega), if_neg (by omega)]
   unfold nuF
   rw [if_neg (by rw [live_at he]; omega)]
  ·by_cases z : x < k
   ·rw [if_pos z, if_pos (by omega)]
   ·rw [if_neg z, if_neg (by omega)]
theorem NbI.fin {w : World} {A B G : Nat} {l : List Ev} {wr : World} {k : Nat} (hA : w.heap.size ≤ A) (hB : w.heap.size ≤ B) (hAB : A ≠ B) {e : Ev} (he : l[k]? = some e) (h13 : e.k ≠ 13) {g : Nat} (hg : e.g = (g : Int)) (bl : Below w.heap.size w wr) (ta : IR wr A G (fun g => (num l k (g : Int) : Int) - 1)) (nb : IR wr B l.length (fun i => if i < k then nuF l i else 0)) {t : Int} (ht : (num l k (g : Int) : Int) = t) (b : Bool) (hb : tellB e = b) {w7 W : World} (b7 : Below (wr.setCell ⟨B, k, none⟩ (.int .i64 t)).heap.size (wr.setCell ⟨B, k, none⟩ (.int .i64 t)) w7)
 (bW : Below (if b then w7.setCell ⟨A, g, none⟩ (.int .i64 t) else w7).heap.size (if b then w7.setCell ⟨A, g, none⟩ (.int .i64 t) else w7) W) : NbI w A B G l (.int .i64 ((k : Int) + 1)) W (k + 1) := by
 have hk := lt_get he
 have k1 := (KB.refl B wr).setCell k (.int .i64 t)
 have n1 := (nb.put k t).below b7
 have t1 := (ta.keep (k1.block A ta.lt hAB)).below b7
 have bl7 : Below w.heap.size w w7 := btr (below_kb bl k1 hB bl.size) (b7.mono (by have := bl.size; have := k1.size; omega))
 have nb2 : IR w7 B l.length (fun i => if i < k + 1 then nuF l i else 0) := n1.congr fun x _ => by
  by_cases q : x = k
  ·subst q
   rw [if_pos (by omega), if_pos rfl]
   unfold nuF
   rw [if_pos ((live_at he).2 h13), gof_at he, hg, ht]
  ·rw [if_neg q]
   by_cases z : x < k
   ·rw [if_pos z, if_pos (by omega)]
   ·rw [if_neg z, if_neg (by omega)]
 cases b with
 | false =>
   simp only [Bool.false_eq_true, if_false] at bW
   refine ⟨by omega, by simp, btr bl7 bW, (t1.below bW).congr fun x _ => ?_, nb2.below bW⟩
   rw [num_succ he, if_neg (fun z => by have := z.2; rw [← tell_tl, hb] at this; cases this)]; rfl
 | true =>
   simp only [if_true] at bW
   have k2 := (KB.refl A w7).setCell g (.int .i64 t)
   have s2 : w7.heap.size = (w7.setCell ⟨A, g, none⟩ (.int .i64 t)).heap.size := by simp [World.setCell]
   refine ⟨by omega, by simp, btr (below_kb bl7 k2 hA bl7.size) (bW.mono (by have := bl7.size; omega)), ((t1.put g t).below bW).congr fun x _ => ?_, (nb2.keep (k2.block B nb2.lt (Ne.symm hAB))).below bW⟩
   rw [num_succ he]
   by_cases q : x = g
   ·subst q
    rw [if_pos rfl, if_pos ⟨hg, by rw [← tell_tl]; exact hb⟩, ← ht]; omega
   ·rw [if_neg q, if_neg (fun z => q (by have := z.1; omega))]; omega
set_option maxRecDepth 100000 in
set_option maxHeartbeats 3200000 in
theorem numbers_any (oa : Option Addr) (l : List Ev) (c : Nat) (w : World) (hA : EsAt w oa l) (h : Tok l) (hl : l.length ≤ 2000) :
 Calls Tryz.prog 52 #[.slice oa l.length c] w fun r w' => ∃ b, r = .returned (.slice (some ⟨b, 0, none⟩) l.length l.length) ∧ IR w' b l.length (nuF l) ∧ w.heap.size ≤ b ∧ Below w.heap.size w w' := by
 have GO := hide (gors_any oa l c w hA (by omega) (hw_g h))
 rw [gor_is h hl] at GO
 have HA := hide hA
 have H := hide h
 have TL := Eg.there_le l
 obtain ⟨M, hM⟩ : ∃ M, l.length = M := ⟨_, rfl⟩
 obtain ⟨G, hG⟩ : ∃ G, there l = G := ⟨_, rfl⟩
 have HM := hide hM
 have HG := hide hG
 rw [hM, hG] at GO
 rw [hM, hG] at TL
 rw [hM] at hl ⊢
 clear hA h hM hG
 go_enter Tryz.func52, Tryz.ntmps52
 go_wp2_with fail
 refine GO.out.mono ?_
 rintro r w1 ⟨rfl, b1⟩
 have mk1 := mk_i w1 G (by omega)
 have I1 := made_i G w1
 have b2 := below_alloc w1 (.cells (madeCells #[.int .i64 0] G) 3)
 have z2 : (w1.alloc (.cells (madeCells #[.int .i64 0] G) 3)).heap.size = w1.heap.size + 1 := World.size_alloc ..
 generalize w1.alloc (.cells (madeCells #[.int .i64 0] G) 3) = W2 at *
 have mk2 := mk_i W2 M (by omega)
 have I2 := made_i M W2
 have b3 := below_alloc W2 (.cells (madeCells #[.int .i64 0] M) 3)
 generalize W2.alloc (.cells (madeCells #[.int .i64 0] M) 3) = W3 at *
 have S1 : Hid (w.heap.size ≤ w1.heap.size) := b1.size
 have S2 : Hid (w.heap.size ≤ W2.heap.size) := Nat.le_trans b1.size b2.size
 have SN : Hid (w1.heap.size ≠ W2.heap.size) := by show _ ≠ _; omega
 have I0 : Hid (NbI w w1.heap.size W2.heap.size G l (.int .i64 0) W3 0) := by
  refine ⟨Nat.zero_le _, rfl, btr (btr b1 b2) b3, (I1.below b3).congr fun x _ => ?_, by rw [HM.out]; exact I2.congr fun x _ => rfl⟩
  simp [num]
 generalize W2.heap.size = B at *
 generalize w1.heap.size = A at *
 clear b1 b2 b3 z2 I1 I2 GO
 go_wp2_with fail
 go_loopw [15] (fun iv wr => ∃ k : Nat, NbI w A B G l iv wr k) (fun iv _ => M - (intOf iv).toNat)
 case atStart => exact ⟨0, I0.out⟩
 case round =>
  obtain ⟨k, I⟩ := hrel
  have hkM : k ≤ M := by rw [← HM.out]; exact I.le
  obtain rfl := I.iv
  have HI := hide I
  by_cases hlt : k < M
  ·obtain ⟨e, he⟩ : ∃ e, l[k]? = some e := ⟨_, List.getElem?_eq_getElem (by rw [HM.out]; omega)⟩
   have EA := hide (HA.out.below I.bl)
   obtain ⟨b2, o2, rfl, -⟩ := EA.out k e he
   obtain ⟨p0, p1, p2, p3, p4, p5, p6, p7⟩ := EA.out.read he
   have hlt' : (k : Int) < (M : Int) := by omega
   have HE := hide he
   by_cases h13 : e.k = 13
   ·have d1 : (e.k == 13) = true := by simp [h13]
    have H13 := hide h13
    clear I he h13
    go_wp2_with fail
    go_roundw
    case measure => simp [intOf]; omega
    case rel => exact ⟨k + 1, HI.out.skip HE.out H13.out (below_alloc _ _)⟩
   ·obtain ⟨g, hg, hgG⟩ := H.out.gl he h13
    rw [HG.out] at hgG
    rw [hg] at p1
    have d1 : (e.k == 13) = false := by simp [h13]
    have hg0 : (0 : Int) ≤ (g : Int) := by omega
    have hg1 : (g : Int) < (G : Int) := by omega
    have HGG := hide hg
    have H13 := hide h13
    clear I he h13 hg
    go_upto_region 7 with fail
    have EB0 := hide (heap_new wr (.cells #[.int .i64 e.k, .int .i64 e.g, .int .i64 e.c, .int .i64 e.a, .int .i64 e.v, .int .i64 e.m, .bool e.s, .bool e.o] 50))
    have BX := hide (below_alloc wr (.cells #[.int .i64 e.k, .int .i64 e.g, .int .i64 e.c, .int .i64 e.a, .int .i64 e.v, .int .i64 e.m, .bool e.s, .bool e.o] 50))
    rw [HGG.out] at EB0 BX
    generalize wr.alloc (.cells #[.int .i64 e.k, .int .i64 (g : Int), .int .i64 e.c, .int .i64 e.a, .int .i64 e.v, .int .i64 e.m, .bool e.s, .bool e.o] 50) = w6 at *
    have TA := hide (HI.out.ta.below BX.out)
    have NB := hide (HI.out.nb.below BX.out)
    have BL := hide (btr HI.out.bl BX.out)
    have hB6 : B ≠ wr.heap.size := by have := HI.out.nb.lt; omega
    have hA6 : A ≠ wr.heap.size := by have := HI.out.ta.lt; omega
    obtain ⟨t, ht⟩ : ∃ t : Int, (num l k (g : Int) : Int) = t := ⟨_, rfl⟩
    have ht1 : 1 ≤ t := by rw [← ht]; unfold num; omega
    have ht2 : t ≤ 3000 := by
     rw [← ht]
     unfold num
     have := List.countP_le_length (p := fun x => decide (x.g = (g : Int)) && tl x) (l := l.take k)
     rw [List.length_take] at this
     omega
    obtain ⟨z0, f0⟩ := TA.out.read hgG
    obtain ⟨z1, f1⟩ := NB.out.read (k := k) (by rw [HM.out]; omega)
    rw [if_neg (Nat.lt_irrefl k)] at z1
    rw [ht] at z0
    have wt : IntKind.i64.wrap (t - 1 + 1) = t := by rw [IntKind.wrap_i64]; omega
    have HT := hide ht
    clear p0 p1 p2 p3 p4 p5 p6 p7 ht EA
    have E1 : w6.cell? ⟨wr.heap.size, 1, none⟩ = some (.int .i64 (g : Int)) := cell_of EB0.out 1
    go_upto_region 8 with fail
    have K7 := hide ((KB.refl B w6).setCell k (.int .i64 t))
    have b7 := Below.refl (w6.setCell ⟨B, k, none⟩ (.int .i64 t)).heap.size (w6.setCell ⟨B, k, none⟩ (.int .i64 t))
    have W7 : Hid (∃ x, (w6.setCell ⟨B, k, none⟩ (.int .i64 t)) = x) := ⟨_, rfl⟩
    obtain ⟨w7, hw7⟩ := W7.out
    rw [hw7]
    have EB := hide ((show w7.heap[wr.heap.size]? = w6.heap[wr.heap.size]? by rw [← hw7]; exact Below.heap_setCell _ _ _ _ (Ne.symm hB6)).trans EB0.out)
    have HW7 := hide hw7
    clear hw7 z0 z1 f0 f1 E1 b7
    have E0 := cell_of EB.out 0
    have E1 := cell_of EB.out 1
    have E2 := cell_of EB.out 2
    have E3 := cell_of EB.out 3
    have E4 := cell_of EB.out 4
    have E5 := cell_of EB.out 5
    have E6 := cell_of EB.out 6
    have E7 := cell_of EB.out 7
    simp at E0 E1 E2 E3 E4 E5 E6 E7
    have TE := hide (tells_any e w7)
    unfold evv evc at TE
    rw [HGG.out] at TE
    obtain ⟨tb, htb⟩ : ∃ b, tellB e = b := ⟨_, rfl⟩
    rw [htb] at TE
    have HTB := hide htb
    clear htb
    go_wp2_with fail
    refine TE.out.mono ?_
    rintro r w8 ⟨rfl, b8⟩
    have B8 := hide b8
    have E1' := (b8.cell (p := ⟨wr.heap.size, 1, none⟩) (World.block_lt_of_cell? w7 _ E1)).trans E1
    have T8 : Hid (IR w8 A G (fun g => (num l k (g : Int) : Int) - 1)) := by
     refine IR.below (IR.keep TA.out ?_) b8
     rw [← HW7.out]
     exact Below.heap_setCell _ _ _ _ (by have := HI.out.nb; intro q; exact SN.out (by omega))
    clear b8 E0 E1 E2 E3 E4 E5 E6 E7
    obtain ⟨z0, f0⟩ := T8.out.read hgG
    rw [HT.out] at z0
    cases tb with
    | false =>
      clear z0 f0
      go_wp2_with fail
      go_roundw
      case measure => simp [intOf]; omega
      case rel => exact ⟨k + 1, NbI.fin S1.out S2.out SN.out HE.out H13.out HGG.out BL.out TA.out NB.out HT.out false HTB.out (by rw [HW7.out]; exact B8.out) (Below.refl _ _)⟩
    | true =>
      go_wp2_with fail
      go_roundw
      case measure => simp [intOf]; omega
      case rel => exact ⟨k + 1, NbI.fin S1.out S2.out SN.out HE.out H13.out HGG.out BL.out TA.out NB.out HT.out true HTB.out (by rw [HW7.out]; exact B8.out) (Below.refl _ _)⟩
  ·have dl : decide ((k : Int) < (M : Int)) = false := by simp; omega
   have hk : k = M := by omega
   subst hk
   clear I hlt
   go_wp2_with fail
   go_ret
   refine ⟨B, by rfl, ?_, S2.out, HI.out.bl⟩
   have := HI.out.nb
   rw [HM.out] at this
   exact this.congr fun x hx => by rw [if_pos hx]
end Ax
end Go.Proofs.YtblfimobiibmjaaGreat
namespace Go.Proofs.YtblfimobiibmjaaGreat
open Go.ChangeShapes Go.WideShapes Go.ChangeAt Go.RowKit
namespace Ba
theorem owns_at {w : World} {base : Nat} {e : TypeId} {v : Value} {l : List Int} (h : w.ownsRow base e 1 v l.length (l.map (Value.int .i64))) : ∃ oa c, v = .slice oa l.length c ∧ At w oa l := by
 rcases h.2 with ⟨rfl, h0⟩ | ⟨g, cap, cur, rfl, _, hg, _, _, hcs, htk⟩
 ·refine ⟨none, 0, by rw [h0], fun k hk => by omega⟩
 ·refine ⟨_, cap, rfl, fun k hk => ⟨g, 0, rfl, ?_⟩⟩
  rw [Nat.zero_add, cell_of hg k]
  have : (cur.toList.take (l.length * 1))[k]? = (l.map (Value.int .i64))[k]? := by rw [htk]
  rw [List.getElem?_take] at this
  simp [hk] at this
  rw [nth_lt l k hk]
  rw [← this]
theorem info_int : (Tryz.prog.info? 3).map (fun i => (i.zero, i.size, i.bytes)) = some (some (.int .i64 0), 1, 8) := by kernel_rfl
end Ba
end Go.Proofs.YtblfimobiibmjaaGreat
namespace Go.Proofs.YtblfimobiibmjaaGreat
open Go.ChangeShapes Go.WideShapes Go.ChangeAt Go.RowKit
namespace Mx
open Ba (KB btr heap_lt cell_of frozen_of ret_bool ret_int bdrew)
def ln (n : Nat) : Nat := (n + 63) / 64
def wd (x j : Nat) : Nat := x / 2 ^ (64 * j) % 2 ^ 64
theorem wd_lt (x j : Nat) : wd x j < 18446744073709551616 := Nat.mod_lt _ (by decide)
theorem wd_bit (x j b : Nat) : (wd x j).testBit b = (decide (b < 64) && x.testBit (64 * j + b)) := by
 unfold wd
 rw [Nat.testBit_mod_two_pow, Nat.testBit_div_two_pow, Nat.add_comm b]
theorem wd_or (x y j : Nat) : wd (x ||| y) j = wd x j ||| wd y j := by
 apply Nat.eq_of_testBit_eq
 intro b
 rw [wd_bit, Nat.testBit_or, Nat.testBit_or, wd_bit, wd_bit]
 cases decide (b < 64) <;> rfl
theorem wd_set (x k j : Nat) : wd (x ||| 2 ^ k) j = if j = k / 64 then wd x j ||| 2 ^ (k % 64) else wd x j := by
 rw [wd_or]
 have e : wd (2 ^ k) j = if j = k / 64 then 2 ^ (k % 64) else 0 := by
  apply Nat.eq_of_testBit_eq
  intro b
  rw [wd_bit, Nat.testBit_two_pow]
  split
  ·next h =>
   subst h
   rw [Nat.testBit_two_pow, Bool.eq_iff_iff]
   simp only [Bool.and_eq_true, decide_eq_true_eq]
   omega
  ·next h =>
   rw [Nat.zero_testBit]
   simp only [Bool.and_eq_false_iff, decide_eq_false_iff_not]
   omega
 rw [e]
 split
 ·rfl
 ·exact Nat.or_zero _
theorem bit_lt (k : Nat) : 2 ^ (k % 64) < 18446744073709551616 := by
 have : 2 ^ (k % 64) < 2 ^ 64 := Nat.pow_lt_pow_right (by decide) (Nat.mod_lt _ (by decide))
 simpa using this
theorem and_bit (x k : Nat) : (wd x (k / 64) &&& 2 ^ (k % 64) != 0) = x.testBit k := by
 have h := Nat.testBit_two_pow_mul_add
 have e : wd x (k / 64) &&& 2 ^ (k % 64) = if x.testBit k then 2 ^ (k % 64) else 0 := by
  apply Nat.eq_of_testBit_eq
  intro b
  rw [Nat.testBit_and, wd_bit, Nat.testBit_two_pow]
  by_cases hb : k % 64 = b
  ·subst hb
   rw [show 64 * (k / 64) + k % 64 = k by omega]
   have : decide (k % 64 < 64) = true := by simp; omega
   rw [this]
   cases x.testBit k <;> simp
  ·have : decide (k % 64 = b) = false := by simpa using hb
   rw [this, Bool.and_false]
   split
   ·rw [Nat.testBit_two_pow, this]
   ·rw [Nat.zero_testBit]
 rw [e]
 cases x.testBit k
 ·rfl
 ·simp only [if_true, bne_iff_ne, ne_eq]
  exact Nat.ne_of_gt (Nat.two_pow_pos _)
structure MW (w : World) (M R W n : Nat) (r : Rws) : Prop where
 le : n ≤ 1024
 hd : w.heap[M]? = some (.cells #[.slice (some ⟨R, 0, none⟩) n n] 91)
 row : ∀ i, i < n → w.cell? ⟨R, i, none⟩ = some (.slice (some ⟨W, i * ln n, none⟩) (ln n) (ln n))
 wrd : ∀ i j, i < n → j < ln n → w.cell? ⟨W, i * ln n + j, none⟩ = some (.int .u64 (wd (r i) j))
 frz : ∀ k, w.frozen? ⟨W, k, none⟩ = false
 mw : M ≠ W
 rw : R ≠ W
 bd : Bd n r
 rl : R < w.heap.size
 wl : W < w.heap.size
theorem ln_le {n : Nat} (h : n ≤ 1024) : ln n ≤ 16 := by unfold ln; omega
theorem MW.mcell {w : World} {M R W n : Nat} {r : Rws} (m : MW w M R W n r) : w.cell? ⟨M, 0, none⟩ = some (.slice (some ⟨R, 0, none⟩) n n) := by
 rw [cell_of m.hd]; rfl
theorem MW.cell_lt {w : World} {M R W n : Nat} {r : Rws} (m : MW w M R W n r) : M < w.heap.size := heap_lt m.hd
theorem frozen_kept {w w' : World} {b : Nat} (h : w'.heap[b]? = w.heap[b]?) (k : Nat) : w'.frozen? ⟨b, k, none⟩ = w.frozen? ⟨b, k, none⟩ := by
 simp [World.frozen?, h]
theorem cell_kept {w w' : World} {b : Nat} (h : w'.heap[b]? = w.heap[b]?) (k : Nat) : w'.cell? ⟨b, k, none⟩ = w.cell? ⟨b, k, none⟩ := by
 simp [World.cell?, h]
theorem lt_kept {w w' : World} {b : Nat} (h : w'.heap[b]? = w.heap[b]?) (hl : b < w.heap.size) : b < w'.heap.size := by
 rw [Array.getElem?_eq_getElem hl] at h
 exact heap_lt h
theorem MW.keep {w w' : World} {M R W n : Nat} {r : Rws} (m : MW w M R W n r) (h1 : w'.heap[M]? = w.heap[M]?) (h2 : w'.heap[R]? = w.heap[R]?) (h3 : w'.heap[W]? = w.heap[W]?) : MW w' M R W n r :=
 ⟨m.le, h1.trans m.hd, fun i hi => (cell_kept h2 i).trans (m.row i hi), fun i j hi hj => (cell_kept h3 _).trans (m.wrd i j hi hj), fun k => (frozen_kept h3 k).trans (m.frz k), m.mw, m.rw, m.bd, lt_kept h2 m.rl, lt_kept h3 m.wl⟩
def bt (k : Nat) : Int := ((2 ^ (k % 64) : Nat) : Int)
theorem bt_eq (k : Nat) : (2 : Int) ^ (k % 64) = bt k := (Int.natCast_pow 2 (k % 64)).symm
theorem bt_wrap (k : Nat) : IntKind.u64.wrap (bt k) = bt k := wrap_u64n _ (bit_lt k)
set_option maxHeartbeats 400000 in
theorem bit_any (k : Nat) (w : World) (h : k ≤ 1024) :
 Calls Tryz.prog 48 #[.int .i64 (k : Int)] w fun r w' => r = .returned (.int .u64 (bt k)) ∧ w' = w := by
 have h64 : ((k : Int) % 64).toNat = k % 64 := by omega
 have hp := bt_eq k
 have hw := bt_wrap k
 go_enter Tryz.func48, Tryz.ntmps48
 go_wp2
 go_ret
 exact ⟨rfl, rfl⟩
theorem MW.below {w w' : World} {M R W n : Nat} {r : Rws} (m : MW w M R W n r) (b : Below w.heap.size w w') : MW w' M R W n r :=
 m.keep (b.block M m.cell_lt) (b.block R m.rl) (b.block W m.wl)
theorem MW.kb {w w' : World} {M R W n X : Nat} {r : Rws} (m : MW w M R W n r) (b : KB X w w') (h1 : M ≠ X) (h2 : R ≠ X) (h3 : W ≠ X) : MW w' M R W n r :=
 m.keep (b.block M m.cell_lt h1) (b.block R m.rl h2) (b.block W m.wl h3)
set_option maxHeartbeats 400000 in
theorem size_nil (w : World) :
 Calls Tryz.prog 20 #[.pointer none] w fun r w' => r = .returned (.int .i64 0) ∧ w' = w := by
 go_enter Tryz.func20, Tryz.ntmps20
 go_wp2
 go_ret
 exact ⟨rfl, rfl⟩
set_option maxHeartbeats 400000 in
theorem size_any {w : World} {M R W n : Nat} {r : Rws} (m : MW w M R W n r) :
 Calls Tryz.prog 20 #[.pointer (some ⟨M, 0, none⟩)] w fun e w' => e = .returned (.int .i64 (n : Int)) ∧ w' = w := by
 have c0 := m.mcell
 have hn := m.le
 clear m
 go_enter Tryz.func20, Tryz.ntmps20
 go_wp2
 go_ret
 exact ⟨rfl, rfl⟩
def inB (n : Nat) (i k : Int) : Bool := decide (0 ≤ i) && decide (0 ≤ k) && decide (i < n) && decide (k < n)
theorem and_bt (x k : Nat) : bits .and .u64 ((wd x (k / 64) : Nat) : Int) (bt k) = ((wd x (k / 64) &&& 2 ^ (k % 64) : Nat) : Int) := and_nat _ _ (wd_lt _ _) (bit_lt k)
theorem or_bt (x k : Nat) : bits .or .u64 ((wd x (k / 64) : Nat) : Int) (bt k) = ((wd x (k / 64) ||| 2 ^ (k % 64) : Nat) : Int) := or_nat _ _ (wd_lt _ _) (bit_lt k)
theorem and_ne (x k : Nat) : (bits .and .u64 ((wd x (k / 64) : Nat) : Int) (bt k) != 0) = x.testBit k := by
 rw [and_bt, ← and_bit x k, Bool.eq_iff_iff]
 simp only [bne_iff_ne, ne_eq]
 omega
set_option maxRecDepth 100000 in
set_option maxHeartbeats 1600000 in
theorem has_in {w : World} {M R W n : Nat} {r : Rws} (m : MW w M R W n r) (i k : Nat) (hi : i < n) (hk : k < n) :
 Calls Tryz.prog 21 #[.pointer (some ⟨M, 0, none⟩), .int .i64 (i : Int), .int .i64 (k : Int)] w fun e w' => e = .returned (.bool (hs r i k)) ∧ ∃ q, w' = w.drewN q := by
 have SZ := hide (size_any m)
 have BI := hide (fun u => bit_any k u (by have := m.le; omega))
 have hle := m.le
 have hj : k / 64 < ln n := by unfold ln; omega
 have hl := ln_le m.le
 have c0 := m.mcell
 have c1 := m.row i hi
 have c2 := m.wrd i (k / 64) hi hj
 have AN := hide (and_ne (r i) k)
 generalize hx : wd (r i) (k / 64) = x at *
 clear hx
 have hs' : (r i).testBit k = hs r i k := rfl
 rw [hs'] at AN
 clear hs'
 generalize hs r i k = b at *
 have hq : ((k : Int) / 64) = ((k / 64 : Nat) : Int) := by omega
 generalize k / 64 = kq at *
 generalize i * ln n = il at *
 generalize ln n = L at *
 have a1 : decide (0 ≤ (i : Int)) = true := by simp
 have a2 : decide (0 ≤ (k : Int)) = true := by simp
 have a3 : decide ((i : Int) < (n : Int)) = true := by simpa using hi
 have a4 : decide ((k : Int) < (n : Int)) = true := by simpa using hk
 have a5 : (kq : Int) < (L : Int) := by omega
 have a6 : (i : Int) < (n : Int) := by omega
 have AN2 := AN.out
 clear m
 go_enter Tryz.func21, Tryz.ntmps21
 go_wp2_with fail
 refine SZ.out.mono ?_
 rintro e w1 ⟨rfl, e1⟩
 obtain rfl := e1.symm
 go_wp2_with fail
 go_quiet ((go_at_call 48; exact Calls.quiet_of_same (BI.out _)))
 go_wp2
 go_ret
 exact ⟨rfl, _, rfl⟩
theorem inB_iff (n : Nat) (i k : Int) : inB n i k = true ↔ 0 ≤ i ∧ 0 ≤ k ∧ i < n ∧ k < n := by
 simp only [inB, Bool.and_eq_true, decide_eq_true_eq]; constructor <;> (intro h; omega)
set_option maxRecDepth 100000 in
set_option maxHeartbeats 1600000 in
theorem has_out {w : World} {M R W n : Nat} {r : Rws} (m : MW w M R W n r) (i k : Int) (h : inB n i k = false) :
 Calls Tryz.prog 21 #[.pointer (some ⟨M, 0, none⟩), .int .i64 i, .int .i64 k] w fun e w' => e = .returned (.bool false) ∧ ∃ q, w' = w.drewN q := by
 have SZ := hide (size_any m)
 have hle := m.le
 clear m
 by_cases h1 : 0 ≤ i
 ·have a1 : decide (0 ≤ i) = true := by simpa using h1
  by_cases h2 : 0 ≤ k
  ·have a2 : decide (0 ≤ k) = true := by simpa using h2
   by_cases h3 : i < (n : Int)
   ·have a3 : decide (i < (n : Int)) = true := by simpa using h3
    have a4 : decide (k < (n : Int)) = false := by
     cases e : decide (k < (n : Int))
     ·rfl
     ·simp [inB, a1, a2, a3, e] at h
    clear h h1 h2 h3
    go_enter Tryz.func21, Tryz.ntmps21
    go_wp2_with fail
    refine SZ.out.mono ?_
    rintro e w1 ⟨rfl, e1⟩
    obtain rfl := e1.symm
    go_wp2_with fail
    go_quiet (fail)
    go_wp2
    go_ret
    exact ⟨rfl, _, rfl⟩
   ·have a3 : decide (i < (n : Int)) = false := by simpa using h3
    clear h h1 h2 h3
    go_enter Tryz.func21, Tryz.ntmps21
    go_wp2_with fail
    refine SZ.out.mono ?_
    rintro e w1 ⟨rfl, e1⟩
    obtain rfl := e1.symm
    go_wp2_with fail
    go_quiet (fail)
    go_wp2
    go_ret
    exact ⟨rfl, _, rfl⟩
  ·have a2 : decide (0 ≤ k) = false := by simpa using h2
   clear h h1 h2
   go_enter Tryz.func21, Tryz.ntmps21
   go_wp2_with fail
   refine SZ.out.mono ?_
   rintro e w1 ⟨rfl, e1⟩
   obtain rfl := e1.symm
   go_wp2_with fail
   go_quiet (fail)
   go_wp2
   go_ret
   exact ⟨rfl, _, rfl⟩
 ·have a1 : decide (0 ≤ i) = false := by simpa using h1
  clear h h1
  go_enter Tryz.func21, Tryz.ntmps21
  go_wp2_with fail
  refine SZ.out.mono ?_
  rintro e w1 ⟨rfl, e1⟩
  obtain rfl := e1.symm
  go_wp2_with fail
  go_quiet (fail)
  go_wp2
  go_ret
  exact ⟨rfl, _, rfl⟩
set_option maxRecDepth 100000 in
set_option maxHeartbeats 1600000 in
theorem has_nil (w : World) (i k : Int) :
 Calls Tryz.prog 21 #[.pointer none, .int .i64 i, .int .i64 k] w fun e w' => e = .returned (.bool false) ∧ ∃ q, w' = w.drewN q := by
 have SZ := hide (size_nil w)
 by_cases h1 : 0 ≤ i
 ·have a1 : decide (0 ≤ i) = true := by simpa using h1
  have a3 : decide (i < 0) = false := by simpa using h1
  by_cases h2 : 0 ≤ k
  ·have a2 : decide (0 ≤ k) = true := by simpa using h2
   clear h1 h2
   go_enter Tryz.func21, Tryz.ntmps21
   go_wp2_with fail
   refine SZ.out.mono ?_
   rintro e w1 ⟨rfl, e1⟩
   obtain rfl := e1.symm
   go_wp2_with fail
   go_quiet (fail)
   go_wp2
   go_ret
   exact ⟨rfl, _, rfl⟩
  ·have a2 : decide (0 ≤ k) = false := by simpa using h2
   clear h1 h2
   go_enter Tryz.func21, Tryz.ntmps21
   go_wp2_with fail
   refine SZ.out.mono ?_
   rintro e w1 ⟨rfl, e1⟩
   obtain rfl := e1.symm
   go_wp2_with fail
   go_quiet (fail)
   go_wp2
   go_ret
   exact ⟨rfl, _, rfl⟩
 ·have a1 : decide (0 ≤ i) = false := by simpa using h1
  clear h1
  go_enter Tryz.func21, Tryz.ntmps21
  go_wp2_with fail
  refine SZ.out.mono ?_
  rintro e w1 ⟨rfl, e1⟩
  obtain rfl := e1.symm
  go_wp2_with fail
  go_quiet (fail)
  go_wp2
  go_ret
  exact ⟨rfl, _, rfl⟩
end Mx
end Go.Proofs.YtblfimobiibmjaaGreat
namespace Go.Proofs.YtblfimobiibmjaaGreat
open Go.ChangeShapes Go.WideShapes Go.ChangeAt Go.RowKit
namespace Mx
open Ba (KB btr heap_lt cell_of frozen_of ret_bool ret_int bdrew)
theorem heap_set {w : World} {b c k : Nat} {v : Value} (h : b ≠ c) : (w.setCell ⟨c, k, none⟩ v).heap[b]? = w.heap[b]? := Below.heap_setCell _ _ _ _ h
theorem mul_in {L i j a b : Nat} (hj : j < L) (hb : b < L) (h : i * L + j = a * L + b) : i = a ∧ j = b := by
 have h1 : (i * L + j) / L = i := by rw [Nat.mul_comm, Nat.mul_add_div (by omega)]; simp [Nat.div_eq_of_lt hj]
 have h2 : (a * L + b) / L = a := by rw [Nat.mul_comm, Nat.mul_add_div (by omega)]; simp [Nat.div_eq_of_lt hb]
 have : i = a := by rw [← h1, h, h2]
 subst this
 exact ⟨rfl, by omega⟩
theorem MW.put {w : World} {M R W n : Nat} {r : Rws} (m : MW w M R W n r) (i j x : Nat) (hi : i < n) (hj : j < ln n) {r' : Rws} (hb : Bd n r') (hx : wd (r' i) j = x) (ho : ∀ a b, a < n → b < ln n → (a = i ∧ b = j) ∨ wd (r' a) b = wd (r a) b) :
 MW (w.setCell ⟨W, i * ln n + j, none⟩ (.int .u64 (x : Int))) M R W n r' := by
 refine ⟨m.le, ?_, ?_, ?_, ?_, m.mw, m.rw, hb, by simp [World.setCell]; exact m.rl, by simp [World.setCell]; exact m.wl⟩
 ·rw [heap_set m.mw]; exact m.hd
 ·intro a ha
  rw [cell_kept (heap_set m.rw)]; exact m.row a ha
 ·intro a b ha hbb
  by_cases e : a = i ∧ b = j
  ·obtain ⟨rfl, rfl⟩ := e
   rw [hx]
   exact World.cell?_setCell_same _ _ _ (m.wrd a b ha hbb)
  ·rcases ho a b ha hbb with q | q
   ·exact absurd q e
   ·rw [q, ← m.wrd a b ha hbb]
    refine World.cell?_setCell_other _ _ _ _ ?_
    intro q2
    simp only [Addr.mk.injEq, true_and, and_true] at q2
    exact e (mul_in hbb hj q2.symm)
 ·intro k
  rw [World.frozen?_setCell]; exact m.frz k
set_option maxRecDepth 100000 in
set_option maxHeartbeats 1600000 in
theorem set_in {w : World} {M R W n : Nat} {r : Rws} (m : MW w M R W n r) (i k : Nat) (hi : i < n) (hk : k < n) :
 Calls Tryz.prog 83 #[.pointer (some ⟨M, 0, none⟩), .int .i64 (i : Int), .int .i64 (k : Int)] w fun e w' => e = .returned (.int .i64 0) ∧ MW w' M R W n (set1 r i k) ∧ KB W w w' := by
 have hj : k / 64 < ln n := by unfold ln; omega
 have SZ := hide (size_any m)
 have BI := hide (fun u => bit_any k u (by have := m.le; omega))
 have hle := m.le
 have hl := ln_le m.le
 have c0 := m.mcell
 have c1 := m.row i hi
 have c2 := m.wrd i (k / 64) hi hj
 have f2 := m.frz (i * ln n + k / 64)
 have OR := hide (or_bt (r i) k)
 have END : Hid (MW (w.setCell ⟨W, i * ln n + k / 64, none⟩ (.int .u64 ((wd (r i) (k / 64) ||| 2 ^ (k % 64) : Nat) : Int))).drew M R W n (set1 r i k) ∧ KB W w (w.setCell ⟨W, i * ln n + k / 64, none⟩ (.int .u64 ((wd (r i) (k / 64) ||| 2 ^ (k % 64) : Nat) : Int))).drew) := by
  refine ⟨?_, ((KB.refl W w).setCell _ _).trans (KB.of (Ba.bdrew1 _))⟩
  refine (MW.put m i (k / 64) _ hi hj (m.bd.set1 i k hk) ?_ ?_).keep rfl rfl rfl
  ·simp only [set1, upd_same, wd_set, if_true]
  ·intro a b ha hb
   by_cases e : a = i
   ·subst e
    by_cases e2 : b = k / 64
    ·exact .inl ⟨rfl, e2⟩
    ·right; simp only [set1, upd_same, wd_set, e2, if_false]
   ·right; simp only [set1, upd_ne _ _ _ _ e]
 have O2 := OR.out
 clear OR
 generalize wd (r i) (k / 64) ||| 2 ^ (k % 64) = y at *
 generalize hx : wd (r i) (k / 64) = x at *
 clear hx
 have hq : ((k : Int) / 64) = ((k / 64 : Nat) : Int) := by omega
 have hq2 : (k : Int).tdiv 64 = ((k / 64 : Nat) : Int) := by rw [Int.tdiv_eq_ediv_of_nonneg (by omega)]; exact hq
 have hq3 : IntKind.i64.wrap ((k / 64 : Nat) : Int) = ((k / 64 : Nat) : Int) := by rw [IntKind.wrap_i64]; omega
 generalize k / 64 = kq at *
 generalize i * ln n = il at *
 generalize ln n = L at *
 have a1 : decide ((i : Int) < 0) = false := by simp
 have a2 : decide ((k : Int) < 0) = false := by simp
 have a3 : decide ((n : Int) ≤ (i : Int)) = false := by simp; omega
 have a4 : decide ((n : Int) ≤ (k : Int)) = false := by simp; omega
 have a5 : (kq : Int) < (L : Int) := by omega
 have a6 : (i : Int) < (n : Int) := by omega
 clear m
 go_enter Tryz.func83, Tryz.ntmps83
 go_wp2_with fail
 refine SZ.out.mono ?_
 rintro e w1 ⟨rfl, e1⟩
 obtain rfl := e1.symm
 go_wp2_with fail
 refine SZ.out.mono ?_
 rintro e w1 ⟨rfl, e1⟩
 obtain rfl := e1.symm
 go_wp2_with fail
 go_region_with (go_at_call 48; refine (BI.out _).mono ?_; rintro e w1 ⟨rfl, rfl⟩)
 all_goals
  go_wp2
  go_ret
  exact ⟨rfl, END.out⟩
set_option maxHeartbeats 800000 in
theorem set_neg (p : Option Addr) (i k : Int) (h : i < 0 ∨ k < 0) (w : World) :
 Calls Tryz.prog 83 #[.pointer p, .int .i64 i, .int .i64 k] w fun e w' => e = .returned (.int .i64 1) ∧ w' = w := by
 by_cases h1 : i < 0
 ·have a1 : decide (i < 0) = true := by simpa using h1
  clear h h1
  go_enter Tryz.func83, Tryz.ntmps83
  go_wp2
  go_ret
  exact ⟨rfl, rfl⟩
 ·have a1 : decide (i < 0) = false := by simpa using h1
  have a2 : decide (k < 0) = true := by simp; omega
  clear h h1
  go_enter Tryz.func83, Tryz.ntmps83
  go_wp2
  go_ret
  exact ⟨rfl, rfl⟩
set_option maxHeartbeats 800000 in
theorem set_out {w : World} {M R W n : Nat} {r : Rws} (m : MW w M R W n r) (i k : Int) (h : inB n i k = false) :
 Calls Tryz.prog 83 #[.pointer (some ⟨M, 0, none⟩), .int .i64 i, .int .i64 k] w fun e w' => e = .returned (.int .i64 1) ∧ w' = w := by
 by_cases hn : i < 0 ∨ k < 0
 ·exact set_neg _ i k hn w
 ·have SZ := hide (size_any m)
  have a1 : decide (i < 0) = false := by simp; omega
  have a2 : decide (k < 0) = false := by simp; omega
  by_cases h3 : i < (n : Int)
  ·have a3 : decide ((n : Int) ≤ i) = false := by simpa using h3
   have a4 : decide ((n : Int) ≤ k) = true := by
    cases e : decide ((n : Int) ≤ k)
    ·exfalso
     have : inB n i k = true := (inB_iff n i k).2 (by simp at e; omega)
     rw [this] at h; cases h
    ·rfl
   clear h hn h3 m
   go_enter Tryz.func83, Tryz.ntmps83
   go_wp2_with fail
   refine SZ.out.mono ?_
   rintro e w1 ⟨rfl, e1⟩
   obtain rfl := e1.symm
   go_wp2_with fail
   refine SZ.out.mono ?_
   rintro e w1 ⟨rfl, e1⟩
   obtain rfl := e1.symm
   go_wp2
   go_ret
   exact ⟨rfl, rfl⟩
  ·have a3 : decide ((n : Int) ≤ i) = true := by simp; omega
   clear h hn h3 m
   go_enter Tryz.func83, Tryz.ntmps83
   go_wp2_with fail
   refine SZ.out.mono ?_
   rintro e w1 ⟨rfl, e1⟩
   obtain rfl := e1.symm
   go_wp2
   go_ret
   exact ⟨rfl, rfl⟩
def setE (n : Nat) (i k : Int) : Int := if inB n i k then 0 else 1
def setR (n : Nat) (r : Rws) (i k : Int) : Rws := if 0 ≤ i ∧ i < n ∧ 0 ≤ k ∧ k < n then set1 r i.toNat k.toNat else r
theorem set_any {w : World} {M R W n : Nat} {r : Rws} (m : MW w M R W n r) (i k : Int) :
 Calls Tryz.prog 83 #[.pointer (some ⟨M, 0, none⟩), .int .i64 i, .int .i64 k] w fun e w' => e = .returned (.int .i64 (setE n i k)) ∧ MW w' M R W n (setR n r i k) ∧ KB W w w' := by
 cases h : inB n i k
 ·refine (set_out m i k h).mono ?_
  rintro e w1 ⟨rfl, rfl⟩
  have hn : ¬ (0 ≤ i ∧ i < (n : Int) ∧ 0 ≤ k ∧ k < (n : Int)) := fun q => by
   have : inB n i k = true := (inB_iff n i k).2 (by omega)
   rw [this] at h; cases h
  refine ⟨by simp [setE, h], ?_, KB.refl _ _⟩
  unfold setR; rw [if_neg hn]; exact m
 ·have hq := (inB_iff n i k).1 h
  obtain ⟨a, rfl⟩ := Int.eq_ofNat_of_zero_le hq.1
  obtain ⟨b, rfl⟩ := Int.eq_ofNat_of_zero_le hq.2.1
  refine (set_in m a b (by omega) (by omega)).mono ?_
  rintro e w1 ⟨rfl, m1, k1⟩
  refine ⟨by simp [setE, h], ?_, k1⟩
  unfold setR; rw [if_pos (by omega), Int.toNat_natCast, Int.toNat_natCast]; exact m1
end Mx
end Go.Proofs.YtblfimobiibmjaaGreat
namespace Go.Proofs.YtblfimobiibmjaaGreat
open Go.ChangeShapes Go.WideShapes Go.ChangeAt Go.RowKit
namespace Mx
open Ba (KB btr heap_lt cell_of frozen_of ret_bool ret_int bdrew heap_new below_alloc heap_below)
theorem info_u : (Tryz.prog.info? 92).map (fun i => (i.zero, i.size, i.bytes)) = some (some (.int .u64 0), 1, 8) := by kernel_rfl
theorem info_l : (Tryz.prog.info? 93).map (fun i => (i.zero, i.size, i.bytes)) = some (some (.slice none 0 0), 1, 24) := by kernel_rfl
theorem info_parts {t : TypeId} {z : Option Value} {s b : Nat} (h : (Tryz.prog.info? t).map (fun i => (i.zero, i.size, i.bytes)) = some (z, s, b)) : ∃ i, Tryz.prog.info? t = some i ∧ i.zero = z ∧ i.size = s ∧ i.bytes = b := by
 cases hi : Tryz.prog.info? t with
 | none => rw [hi] at h; cases h
 | some i => rw [hi] at h; simp at h; exact ⟨i, rfl, h.1, h.2.1, h.2.2⟩
theorem mk_u (w : World) (n : Nat) (hn : n ≤ 1000000) : (Instr.makeSlice 93 (.int .i64 (n : Int)) (.int .i64 (n : Int))).run Tryz.prog w = .ok (.slice (some ⟨w.heap.size, 0, none⟩) n n) (w.alloc (.cells (madeCells #[.int .u64 0] n) 92)) := by
 obtain ⟨i0, hi, hz0, hz1, hz2⟩ := info_parts info_u
 have := run_make (P := Tryz.prog) w 93 92 i0 (.int .u64 0) Tryz.underlying93 hi hz0 .i64 .i64 n n (by omega) (Int.le_refl _) (by rw [hz2]; omega) (by omega)
 rw [hz1] at this
 simpa [Value.cells] using this
theorem mk_l (w : World) (n : Nat) (hn : n ≤ 1000000) : (Instr.makeSlice 89 (.int .i64 (n : Int)) (.int .i64 (n : Int))).run Tryz.prog w = .ok (.slice (some ⟨w.heap.size, 0, none⟩) n n) (w.alloc (.cells (madeCells #[.slice none 0 0] n) 93)) := by
 obtain ⟨i0, hi, hz0, hz1, hz2⟩ := info_parts info_l
 have := run_make (P := Tryz.prog) w 89 93 i0 (.slice none 0 0) Tryz.underlying89 hi hz0 .i64 .i64 n n (by omega) (Int.le_refl _) (by rw [hz2]; omega) (by omega)
 rw [hz1] at this
 simpa [Value.cells] using this
theorem made_at (z : Value) (n k : Nat) (h : k < n) : (madeCells #[z] n)[k]? = some z := by
 simp [madeCells, h, Nat.mod_one]
structure NI (w wr : World) (n L nL k : Nat) : Prop where
 wo : wr.heap[w.heap.size]? = some (.cells (madeCells #[.int .u64 0] nL) 92)
 hd : wr.heap[w.heap.size + 2]? = some (.cells #[.slice (some ⟨w.heap.size + 1, 0, none⟩) n n] 91)
 row : ∀ i, i < k → wr.cell? ⟨w.heap.size + 1, i, none⟩ = some (.slice (some ⟨w.heap.size, i * L, none⟩) L L)
 rest : ∀ i, k ≤ i → i < n → wr.cell? ⟨w.heap.size + 1, i, none⟩ = some (.slice none 0 0)
 fr : ∀ i, wr.frozen? ⟨w.heap.size + 1, i, none⟩ = false
 bl : Below w.heap.size w wr
theorem NI.step {w wr : World} {n L nL k : Nat} (h : NI w wr n L nL k) (hk : k < n) : NI w (wr.setCell ⟨w.heap.size + 1, k, none⟩ (.slice (some ⟨w.heap.size, k * L, none⟩) L L)).drew n L nL (k + 1) := by
 refine ⟨(heap_set (by omega)).trans h.wo, (heap_set (by omega)).trans h.hd, ?_, ?_, ?_, ?_⟩
 ·intro i hi
  by_cases e : i = k
  ·subst e; exact World.cell?_setCell_same _ _ _ (h.rest i (Nat.le_refl _) hk)
  ·refine Eq.trans (World.cell?_setCell_other _ _ _ _ ?_) (h.row i (by omega))
   intro q; simp only [Addr.mk.injEq, true_and, and_true] at q; omega
 ·intro i hi hn
  refine Eq.trans (World.cell?_setCell_other _ _ _ _ ?_) (h.rest i (by omega) hn)
  intro q; simp only [Addr.mk.injEq, true_and, and_true] at q; omega
 ·intro i
  exact (World.frozen?_setCell _ _ _ _).trans (h.fr i)
 ·exact (h.bl.setCell (by simp) _).trans (Ba.bdrew1 _ |>.mono (by
   have := h.bl.size
   show w.heap.size ≤ (wr.setCell _ _).heap.size
   simp [World.setCell]; exact this))
theorem NI.start (w : World) (n L nL : Nat) : NI w (((w.alloc (.cells (madeCells #[.int .u64 0] nL) 92)).alloc (.cells (madeCells #[.slice none 0 0] n) 93)).alloc (.cells #[.slice (some ⟨w.heap.size + 1, 0, none⟩) n n] 91)) n L nL 0 := by
 have h1 : (((w.alloc (.cells (madeCells #[.int .u64 0] nL) 92)).alloc (.cells (madeCells #[.slice none 0 0] n) 93)).alloc (.cells #[.slice (some ⟨w.heap.size + 1, 0, none⟩) n n] 91)).heap[w.heap.size + 1]? = some (.cells (madeCells #[.slice none 0 0] n) 93) := by
  have := heap_new (w.alloc (.cells (madeCells #[.int .u64 0] nL) 92)) (.cells (madeCells #[.slice none 0 0] n) 93)
  rw [World.size_alloc] at this
  exact heap_below this (below_alloc _ _)
 refine ⟨heap_below (heap_below (heap_new _ _) (below_alloc _ _)) (below_alloc _ _), ?_, fun i hi => by omega, fun i _ hi => ?_, fun i => frozen_of h1 i, btr (btr (below_alloc _ _) (below_alloc _ _)) (below_alloc _ _)⟩
 ·have := heap_new ((w.alloc (.cells (madeCells #[.int .u64 0] nL) 92)).alloc (.cells (madeCells #[.slice none 0 0] n) 93)) (.cells #[.slice (some ⟨w.heap.size + 1, 0, none⟩) n n] 91)
  rw [World.size_alloc, World.size_alloc] at this
  exact this
 ·rw [cell_of h1]; exact made_at _ _ _ hi
theorem NI.done {w wr : World} {n L nL : Nat} (h : NI w wr n L nL n) (hn : n ≤ 1024) (hL : ln n = L) (hnL : n * L = nL) : MW wr (w.heap.size + 2) (w.heap.size + 1) w.heap.size n (fun _ => 0) := by
 subst hL hnL
 refine ⟨hn, h.hd, h.row, fun i j hi hj => ?_, fun k => frozen_of h.wo k, by omega, by omega, Bd.zero n, by have := heap_lt h.hd; omega, by have := heap_lt h.hd; omega⟩
 rw [cell_of h.wo, made_at _ _ _ (by
  have : (i + 1) * ln n ≤ n * ln n := Nat.mul_le_mul_right _ hi
  rw [Nat.succ_mul] at this; omega)]
 simp [wd]
set_option maxRecDepth 100000 in
set_option maxHeartbeats 1600000 in
theorem new_ok (n : Nat) (h : n ≤ 1024) (w : World) :
 Calls Tryz.prog 82 #[.int .i64 (n : Int)] w fun e w' => e = .returned (.tuple #[.pointer (some ⟨w.heap.size + 2, 0, none⟩), .int .i64 0]) ∧ MW w' (w.heap.size + 2) (w.heap.size + 1) w.heap.size n (fun _ => 0) ∧ Below w.heap.size w w' := by
 have a1 : decide ((n : Int) < 0) = false := by simp
 have a2 : decide ((1024 : Int) < (n : Int)) = false := by simp; omega
 obtain ⟨L, hL⟩ : ∃ L, ln n = L := ⟨_, rfl⟩
 have hl16 : L ≤ 16 := by rw [← hL]; exact ln_le h
 have hl0 : 0 < n → 0 < L := by rw [← hL]; unfold ln; omega
 have hq : ((n : Int) + 64 - 1) / 64 = (L : Int) := by rw [← hL]; unfold ln; omega
 obtain ⟨nL, hnL⟩ : ∃ nL, n * L = nL := ⟨_, rfl⟩
 have hm : (n : Int) * (L : Int) = (nL : Int) := by rw [← hnL]; exact (Int.natCast_mul n L).symm
 have hb : nL ≤ 16384 := by
  rw [← hnL]
  exact Nat.le_trans (Nat.mul_le_mul h hl16) (by decide)
 have mk1 := mk_u w nL (by omega)
 have mk2 := mk_l (w.alloc (.cells (madeCells #[.int .u64 0] nL) 92)) n (by omega)
 simp only [World.size_alloc] at mk2
 have HL := hide hL
 have HM := hide hnL
 have ST := hide (NI.start w n L nL)
 have HH := hide h
 have HL0 := hide hl0
 clear hL hnL hl0
 go_enter Tryz.func82, Tryz.ntmps82
 go_wp2_with fail
 simp only [hq]
 clear hq
 go_loopw [33] (fun i wr => ∃ k : Nat, k ≤ n ∧ i = .int .i64 (k : Int) ∧ NI w wr n L nL k) (fun i _ => n - (intOf i).toNat)
 case atStart => exact ⟨0, Nat.zero_le _, rfl, ST.out⟩
 case round =>
  obtain ⟨k, hk, rfl, ni⟩ := hrel
  have NIH := hide ni
  clear mk1 mk2 ST hm
  by_cases hlt : k < n
  ·have hlt' : (k : Int) < (n : Int) := by omega
   have hL0 := HL0.out (by omega)
   have c0 : wr.cell? ⟨w.heap.size + 2, 0, none⟩ = some (.slice (some ⟨w.heap.size + 1, 0, none⟩) n n) := by rw [cell_of ni.hd]; rfl
   have c1 := ni.rest k (Nat.le_refl _) hlt
   have f1 := ni.fr k
   have SP := hide (ni.step hlt)
   clear ni
   obtain ⟨kL, hkL⟩ : ∃ kL, k * L = kL := ⟨_, rfl⟩
   have e1 : (k : Int) * (L : Int) = (kL : Int) := by rw [← hkL]; exact (Int.natCast_mul k L).symm
   have e2 : ((k : Int) + 1) * (L : Int) = ((kL + L : Nat) : Int) := by rw [← hkL, Int.add_mul, Int.one_mul, Int.natCast_add, Int.natCast_mul]
   have hle : kL + L ≤ nL := by
    rw [← hkL, ← HM.out, ← Nat.succ_mul]
    exact Nat.mul_le_mul_right _ hlt
   rw [hkL] at SP
   clear hkL
   obtain ⟨kM, hkM⟩ : ∃ kM, kL + L = kM := ⟨_, rfl⟩
   rw [hkM] at e2 hle
   have hsub : kM - kL = L := by omega
   have hlt2 : kL < kM := by omega
   have b1 : (kL : Int) ≤ (kM : Int) := by omega
   have b2 : (kM : Int) ≤ (nL : Int) := by omega
   clear hkM
   go_wp2_with fail
   go_region_held3 (fun w' => w'.cell? ⟨w.heap.size + 2, 0, none⟩ = some (.slice (some ⟨w.heap.size + 1, 0, none⟩) n n)) (go_keep) ((fail))
   go_wp2_with fail
   go_roundw
   case rel => exact ⟨k + 1, by omega, by go_num, SP.out⟩
   case measure => simp [intOf]; omega
  ·have hlt' : ¬ ((k : Int) < (n : Int)) := by omega
   obtain rfl : k = n := by omega
   go_wp2_with fail
   go_ret2
   exact ⟨rfl, NIH.out.done HH.out HL.out HM.out, NIH.out.bl⟩
end Mx
end Go.Proofs.YtblfimobiibmjaaGreat
namespace Go.Proofs.YtblfimobiibmjaaGreat
open Go.ChangeShapes Go.WideShapes Go.ChangeAt Go.RowKit
namespace Mx
open Ba (KB btr heap_lt cell_of frozen_of ret_bool ret_int bdrew heap_new below_alloc heap_below)
theorem wd_mod (y j b : Nat) : wd (y % 2 ^ (64 * j)) b = if b < j then wd y b else 0 := by
 apply Nat.eq_of_testBit_eq
 intro c
 rw [wd_bit, Nat.testBit_mod_two_pow]
 split
 ·next h =>
  rw [wd_bit]
  by_cases hc : c < 64
  ·have : decide (64 * b + c < 64 * j) = true := by simp; omega
   rw [this, Bool.true_and]
  ·simp [hc]
 ·next h =>
  rw [Nat.zero_testBit]
  by_cases hc : c < 64
  ·have : decide (64 * b + c < 64 * j) = false := by simp; omega
   rw [this]; simp
  ·simp [hc]
def jn (r : Rws) (i k j : Nat) : Rws := upd r i (r i ||| r k % 2 ^ (64 * j))
theorem jn_zero (r : Rws) (i k : Nat) : jn r i k 0 = r := by
 funext a
 simp only [jn, upd, Nat.mul_zero, Nat.pow_zero, Nat.mod_one, Nat.or_zero]
 split
 ·next h => rw [h]
 ·rfl
theorem jn_word (r : Rws) (i k j : Nat) : wd (jn r i k j k) j = wd (r k) j := by
 by_cases e : k = i
 ·subst e
  simp only [jn, upd_same]
  rw [wd_or, wd_mod, if_neg (by omega), Nat.or_zero]
 ·simp only [jn, upd_ne _ _ _ _ e]
theorem jn_self (r : Rws) (i k j : Nat) : wd (jn r i k j i) j = wd (r i) j := by
 simp only [jn, upd_same]
 rw [wd_or, wd_mod, if_neg (by omega), Nat.or_zero]
theorem jn_next (r : Rws) (i k j : Nat) : wd (jn r i k (j + 1) i) j = wd (r i) j ||| wd (r k) j := by
 simp only [jn, upd_same]
 rw [wd_or, wd_mod, if_pos (by omega)]
theorem jn_other (r : Rws) (i k j a b : Nat) (h : ¬ (a = i ∧ b = j)) : wd (jn r i k (j + 1) a) b = wd (jn r i k j a) b := by
 by_cases e : a = i
 ·subst e
  have hb : b ≠ j := fun q => h ⟨rfl, q⟩
  simp only [jn, upd_same]
  rw [wd_or, wd_or, wd_mod, wd_mod]
  by_cases hj : b < j
  ·rw [if_pos (by omega), if_pos hj]
  ·rw [if_neg (by omega), if_neg hj]
 ·simp only [jn, upd_ne _ _ _ _ e]
theorem jn_full {n : Nat} {r : Rws} (h : Bd n r) (i k : Nat) : jn r i k (ln n) = upd r i (r i ||| r k) := by
 have : r k % 2 ^ (64 * ln n) = r k := by
  apply Nat.eq_of_testBit_eq
  intro b
  rw [Nat.testBit_mod_two_pow]
  by_cases hb : b < 64 * ln n
  ·simp [hb]
  ·have : (r k).testBit b = false := h k b (by unfold ln at hb; omega)
   rw [this, Bool.and_false]
 simp only [jn, this]
theorem Bd.jn {n : Nat} {r : Rws} (h : Bd n r) (i k j : Nat) : Bd n (jn r i k j) := by
 intro a b hb
 unfold hs Mx.jn
 by_cases e : a = i
 ·subst e
  rw [upd_same, Nat.testBit_or, Nat.testBit_mod_two_pow]
  have h1 : (r a).testBit b = false := h a b hb
  have h2 : (r k).testBit b = false := h k b hb
  rw [h1, h2]; simp
 ·rw [upd_ne _ _ _ _ e]; exact h a b hb
theorem MW.jstep {w : World} {M R W n : Nat} {r : Rws} {i k j : Nat} (m : MW w M R W n (jn r i k j)) (hb : Bd n r) (hi : i < n) (hj : j < ln n) : MW (w.setCell ⟨W, i * ln n + j, none⟩ (.int .u64 ((wd (r i) j ||| wd (r k) j : Nat) : Int))) M R W n (jn r i k (j + 1)) :=
 m.put i j _ hi hj (hb.jn i k (j + 1)) (jn_next r i k j) (fun a b _ _ => by
  by_cases e : a = i ∧ b = j
  ·exact .inl e
  ·exact .inr (jn_other r i k j a b e))
set_option maxRecDepth 100000 in
set_option maxHeartbeats 1600000 in
theorem join_any {w : World} {M R W n : Nat} {r : Rws} (m : MW w M R W n r) (i k : Nat) (hi : i < n) (hk : k < n) :
 Calls Tryz.prog 135 #[.slice (some ⟨W, i * ln n, none⟩) (ln n) (ln n), .slice (some ⟨W, k * ln n, none⟩) (ln n) (ln n)] w fun e w' => e = .returned (.tuple #[]) ∧ MW w' M R W n (upd r i (r i ||| r k)) ∧ KB W w w' := by
 have hl := ln_le m.le
 have BD := hide m.bd
 rw [← jn_full m.bd i k]
 have M0 : Hid (MW w M R W n (jn r i k 0)) := by rw [jn_zero]; exact m
 clear m
 obtain ⟨L, hL⟩ : ∃ L, ln n = L := ⟨_, rfl⟩
 obtain ⟨iL, hiL⟩ : ∃ iL, i * L = iL := ⟨_, rfl⟩
 obtain ⟨kL, hkL⟩ : ∃ kL, k * L = kL := ⟨_, rfl⟩
 rw [hL] at hl ⊢
 rw [hiL, hkL]
 have HL := hide hL
 have HI := hide hiL
 have HK := hide hkL
 clear hL hiL hkL
 go_enter Tryz.func135, Tryz.ntmps135
 go_wp2_with fail
 go_loopw [8] (fun s wr => ∃ j : Nat, j ≤ L ∧ s = .int .i64 (j : Int) ∧ MW wr M R W n (jn r i k j) ∧ KB W w wr) (fun s _ => L - (intOf s).toNat)
 case atStart => exact ⟨0, Nat.zero_le _, rfl, M0.out, KB.refl _ _⟩
 case round =>
  obtain ⟨j, hj, rfl, mj, kj⟩ := hrel
  have MJ := hide mj
  have KJ := hide kj
  clear M0
  by_cases hlt : j < L
  ·have hlt' : (j : Int) < (L : Int) := by omega
   have c1 := mj.wrd i j hi (by rw [HL.out]; exact hlt)
   have c2 := mj.wrd k j hk (by rw [HL.out]; exact hlt)
   rw [HL.out, HI.out, jn_self] at c1
   rw [HL.out, HK.out, jn_word] at c2
   have f1 := mj.frz (iL + j)
   have OR := or_nat (wd (r i) j) (wd (r k) j) (wd_lt _ _) (wd_lt _ _)
   have NX := hide (MJ.out.jstep BD.out hi (by rw [HL.out]; exact hlt))
   rw [HL.out, HI.out] at NX
   have KX := hide (kj.setCell (iL + j) (.int .u64 ((wd (r i) j ||| wd (r k) j : Nat) : Int)))
   clear mj kj
   generalize wd (r i) j ||| wd (r k) j = z at *
   generalize wd (r i) j = x at *
   generalize wd (r k) j = y at *
   go_wp2_with fail
   go_roundw
   case rel => exact ⟨j + 1, by omega, by go_num, NX.out, KX.out⟩
   case measure => simp [intOf]; omega
  ·have hlt' : ¬ ((j : Int) < (L : Int)) := by omega
   obtain rfl : j = L := by omega
   clear mj kj
   go_wp2_with fail
   go_end0
   exact ⟨rfl, MJ.out, KJ.out⟩
theorem MW.drw {w : World} {M R W n : Nat} {r : Rws} (m : MW w M R W n r) (q : Nat) : MW (w.drewN q) M R W n r := m.keep rfl rfl rfl
set_option maxRecDepth 100000 in
set_option maxHeartbeats 1600000 in
theorem close_any {w : World} {M R W n : Nat} {r : Rws} (m : MW w M R W n r) :
 Calls Tryz.prog 84 #[.pointer (some ⟨M, 0, none⟩)] w fun e w' => e = .returned (.tuple #[]) ∧ MW w' M R W n (clo r n) ∧ KB W w w' := by
 have hle := m.le
 have SZ := hide (fun (u : World) (rr : Rws) (mm : MW u M R W n rr) => size_any mm)
 have M0 := hide m
 clear m
 go_enter Tryz.func84, Tryz.ntmps84
 go_wp2_with fail
 refine (SZ.out _ _ M0.out).mono ?_
 rintro e w1 ⟨rfl, e1⟩
 obtain rfl := e1.symm
 go_wp2_with fail
 go_loopw [6] (fun s wr => ∃ k : Nat, k ≤ n ∧ s = .int .i64 (k : Int) ∧ MW wr M R W n (turns r n k) ∧ KB W w wr) (fun s _ => n - (intOf s).toNat)
 case atStart => exact ⟨0, Nat.zero_le _, rfl, M0.out, KB.refl _ _⟩
 case round =>
  obtain ⟨k, hk, rfl, mk, kk⟩ := hrel
  have MK := hide mk
  have KK := hide kk
  clear mk kk
  by_cases hlt : k < n
  ·have hlt' : (k : Int) < (n : Int) := by omega
   go_wp2_with fail
   refine (SZ.out _ _ MK.out).mono ?_
   rintro e w1 ⟨rfl, e1⟩
   obtain rfl := e1.symm
   go_wp2_with fail
   rename World => wo
   go_loopw [11] (fun s wr => ∃ i : Nat, i ≤ n ∧ s = .int .i64 (i : Int) ∧ MW wr M R W n (turn (turns r n k) k i) ∧ KB W w wr) (fun s _ => n - (intOf s).toNat)
   case atStart => exact ⟨0, Nat.zero_le _, rfl, MK.out, KK.out⟩
   case round =>
    obtain ⟨i, hi, rfl, mi, ki⟩ := hrel
    by_cases hlti : i < n
    ·have hlti' : (i : Int) < (n : Int) := by omega
     have HA := hide (has_in mi i k hlti hlt)
     have MI := hide mi
     have KI := hide ki
     have JO := hide (fun q => join_any (w := (wr.drewN q).drew) ((mi.drw q).keep rfl rfl rfl) i k hlti hlt)
     have c0 := mi.mcell
     have c1 := mi.row i hlti
     have c2 := mi.row k hlt
     have TR : Hid (turn (turns r n k) k (i + 1) = if hs (turn (turns r n k) k i) i k then upd (turn (turns r n k) k i) i (turn (turns r n k) k i i ||| turn (turns r n k) k i k) else turn (turns r n k) k i) := rfl
     clear mi ki
     generalize turn (turns r n k) k i = t at *
     obtain ⟨L, hL⟩ : ∃ L, ln n = L := ⟨_, rfl⟩
     obtain ⟨iL, hiL⟩ : ∃ iL, i * L = iL := ⟨_, rfl⟩
     obtain ⟨kL, hkL⟩ : ∃ kL, k * L = kL := ⟨_, rfl⟩
     rw [hL, hiL] at c1
     rw [hL, hkL] at c2
     rw [hL, hiL, hkL] at JO
     have HLL := hide hL
     have HIL := hide hiL
     have HKL := hide hkL
     clear hL hiL hkL
     cases hb : hs t i k
     ·rw [hb] at HA TR
      have TR2 : Hid (turn (turns r n k) k (i + 1) = t) := TR.out
      clear hb TR
      go_wp2_with fail
      refine HA.out.mono ?_
      rintro e w1 ⟨rfl, q, rfl⟩
      go_wp2_with fail
      go_roundw
      case rel => exact ⟨i + 1, by omega, by go_num, by rw [TR2.out]; exact MI.out.drw q, KI.out.trans (KB.of (bdrew _ q))⟩
      case measure => simp [intOf]; omega
     ·rw [hb] at HA TR
      have TR2 : Hid (turn (turns r n k) k (i + 1) = upd t i (t i ||| t k)) := TR.out
      clear hb TR
      go_wp2_with fail
      refine HA.out.mono ?_
      rintro e w1 ⟨rfl, q, rfl⟩
      go_wp2_with fail
      have J1 := hide (JO.out q)
      have K1 := hide ((KI.out.trans (KB.of (bdrew _ q))).trans (KB.of (Ba.bdrew1 (wr.drewN q))))
      clear JO
      go_region_held3 (fun w' => w'.cell? ⟨M, 0, none⟩ = some (.slice (some ⟨R, 0, none⟩) n n) ∧ w'.cell? ⟨R, i, none⟩ = some (.slice (some ⟨W, iL, none⟩) L L) ∧ w'.cell? ⟨R, k, none⟩ = some (.slice (some ⟨W, kL, none⟩) L L))
       (first | (go_keep; done) | exact ⟨m2.mcell, (m2.row i hlti).trans (by rw [HLL.out, HIL.out]), (m2.row k hlt).trans (by rw [HLL.out, HKL.out])⟩)
       ((go_at_call 135; refine J1.out.mono ?_; rintro e w2 ⟨rfl, m2, k2⟩))
      have M2 := hide m2
      have K2 := hide (K1.out.trans k2)
      clear m2 k2
      go_wp2_with fail
      go_roundw
      case rel => exact ⟨i + 1, by omega, by go_num, by rw [TR2.out]; exact M2.out, K2.out⟩
      case measure => simp [intOf]; omega
    ·have hlti' : ¬ ((i : Int) < (n : Int)) := by omega
     obtain rfl : i = n := by omega
     have MI : Hid (MW wr M R W i (turns r i (k + 1))) := mi
     have KI := hide ki
     clear mi ki
     go_wp2_with fail
     go_roundw
     case rel => exact ⟨k + 1, by omega, by go_num, MI.out, KI.out⟩
     case measure => simp [intOf]; omega
  ·have hlt' : ¬ ((k : Int) < (n : Int)) := by omega
   obtain rfl : k = n := by omega
   go_wp2_with fail
   go_end0
   exact ⟨rfl, MK.out, KK.out⟩
end Mx
end Go.Proofs.YtblfimobiibmjaaGreat
namespace Go.Proofs.YtblfimobiibmjaaGreat
open Go.ChangeShapes Go.WideShapes Go.ChangeAt Go.RowKit
namespace Eg
open En Gu Ba
def cmpI (x y : Int) : Int := if x < y then -1 else if y < x then 1 else 0
theorem nan_any (x : Int) (w : World) : Calls Tryz.prog 131 #[.int .i64 x] w fun r w' => r = .returned (.bool false) ∧ w' = w := by
 have d : (x != x) = false := by simp
 go_enter Tryz.func131, Tryz.ntmps131
 go_wp2_with fail
 go_ret
 exact ⟨rfl, rfl⟩
set_option maxRecDepth 100000 in
set_option maxHeartbeats 1600000 in
theorem cmp_any (x y : Int) (w : World) : Calls Tryz.prog 71 #[.int .i64 x, .int .i64 y] w fun r w' => r = .returned (.int .i64 (cmpI x y)) ∧ w' = w := by
 have N1 := hide (nan_any x w)
 have N2 := hide (nan_any y w)
 rcases Int.lt_trichotomy x y with h | h | h
 ·have e : cmpI x y = -1 := by unfold cmpI; rw [if_pos h]
  rw [e]
  have d1 : decide (x < y) = true := by simp [h]
  clear e h
  go_enter Tryz.func71, Tryz.ntmps71
  go_wp2_with fail
  refine N1.out.mono ?_
  rintro r w1 ⟨rfl, rfl⟩
  go_wp2_with fail
  refine N2.out.mono ?_
  rintro r w2 ⟨rfl, rfl⟩
  go_wp2_with fail
  go_ret
  exact ⟨rfl, rfl⟩
 ·have e : cmpI x y = 0 := by unfold cmpI; rw [if_neg (by omega), if_neg (by omega)]
  rw [e]
  have d1 : decide (x < y) = false := by simp; omega
  have d2 : decide (x > y) = false := by simp; omega
  clear e h
  go_enter Tryz.func71, Tryz.ntmps71
  go_wp2_with fail
  refine N1.out.mono ?_
  rintro r w1 ⟨rfl, rfl⟩
  go_wp2_with fail
  refine N2.out.mono ?_
  rintro r w2 ⟨rfl, rfl⟩
  go_wp2_with fail
  go_ret
  exact ⟨rfl, rfl⟩
 ·have e : cmpI x y = 1 := by unfold cmpI; rw [if_neg (by omega), if_pos h]
  rw [e]
  have d1 : decide (x < y) = false := by simp; omega
  have d2 : decide (x > y) = true := by simp; omega
  clear e h
  go_enter Tryz.func71, Tryz.ntmps71
  go_wp2_with fail
  refine N1.out.mono ?_
  rintro r w1 ⟨rfl, rfl⟩
  go_wp2_with fail
  refine N2.out.mono ?_
  rintro r w2 ⟨rfl, rfl⟩
  go_wp2_with fail
  go_ret
  exact ⟨rfl, rfl⟩
def or3 (a b c : Int) : Int := if a ≠ 0 then a else if b ≠ 0 then b else c
set_option maxRecDepth 100000 in
set_option maxHeartbeats 1600000 in
theorem or_any (B : Nat) (a b c : Int) (w : World) (h0 : w.cell? ⟨B, 0, none⟩ = some (.int .i64 a)) (h1 : w.cell? ⟨B, 1, none⟩ = some (.int .i64 b)) (h2 : w.cell? ⟨B, 2, none⟩ = some (.int .i64 c)) :
 Calls Tryz.prog 70 #[.slice (some ⟨B, 0, none⟩) 3 3] w fun r w' => r = .returned (.int .i64 (or3 a b c)) ∧ w' = w := by
 have H0 := hide h0
 have H1 := hide h1
 have H2 := hide h2
 clear h0 h1 h2
 go_enter Tryz.func70, Tryz.ntmps70
 go_wp2_with fail
 go_loopw [8] (fun iv wr => ∃ k : Nat, k ≤ 3 ∧ iv = .int .i64 k ∧ wr = w ∧ (0 < k → a = 0) ∧ (1 < k → b = 0) ∧ (2 < k → c = 0)) (fun iv _ => 3 - (intOf iv).toNat)
 case atStart => exact ⟨0, by omega, rfl, rfl, by omega, by omega, by omega⟩
 case round =>
  obtain ⟨k, hk, rfl, rfl, q0, q1, q2⟩ := hrel
  have Q0 := hide q0
  have Q1 := hide q1
  have Q2 := hide q2
  clear q0 q1 q2
  by_cases hlt : k < 3
  ·obtain ⟨x, hx, hc, hz, hy⟩ : ∃ x : Int, wr.cell? ⟨B, k, none⟩ = some (.int .i64 x) ∧ Hid (x ≠ 0 → or3 a b c = x) ∧ Hid (x = 0 → (0 < k + 1 → a = 0) ∧ (1 < k + 1 → b = 0) ∧ (2 < k + 1 → c = 0)) ∧ True := by
    obtain rfl | rfl | rfl : k = 0 ∨ k = 1 ∨ k = 2 := by omega
    ·exact ⟨a, H0.out, (fun hx => by unfold or3; rw [if_pos hx]), (fun hx => ⟨fun _ => hx, by omega, by omega⟩), trivial⟩
    ·exact ⟨b, H1.out, (fun hx => by unfold or3; rw [if_neg (by simpa using Q0.out (by omega)), if_pos hx]), (fun hx => ⟨fun _ => Q0.out (by omega), fun _ => hx, by omega⟩), trivial⟩
    ·exact ⟨c, H2.out, (fun hx => by unfold or3; rw [if_neg (by simpa using Q0.out (by omega)), if_neg (by simpa using Q1.out (by omega))]), (fun hx => ⟨fun _ => Q0.out (by omega), fun _ => Q1.out (by omega), fun _ => hx⟩), trivial⟩
   have k0 : (0 : Int) ≤ (k : Int) := by omega
   have k1 : (k : Int) < 3 := by omega
   by_cases hx0 : x = 0
   ·have d : (x != 0) = false := by simp [hx0]
    have hz' := hide (hz.out hx0)
    clear hx0 hz hc
    go_wp2_with fail
    go_roundw
    case rel => exact ⟨k + 1, by omega, by simp, trivial, hz'.out.1, hz'.out.2.1, hz'.out.2.2⟩
    case measure => simp [intOf]; omega
   ·have d : (x != 0) = true := by simp [hx0]
    have hc' := hide (hc.out hx0)
    clear hx0 hz hc
    go_wp2_with fail
    go_ret
    exact ⟨by rw [hc'.out]; rfl, rfl⟩
  ·have d : decide ((k : Int) < 3) = false := by simp; omega
   have e : or3 a b c = 0 := by
    unfold or3
    rw [if_neg (by simpa using Q0.out (by omega)), if_neg (by simpa using Q1.out (by omega)), Q2.out (by omega)]
   have E := hide e
   clear e
   go_wp2_with fail
   go_ret
   exact ⟨by rw [E.out]; rfl, rfl⟩
def cmpE (x y : Ed) : Int := or3 (cmpI x.t y.t) (cmpI x.f y.f) (cmpI x.r y.r)
def edv (x : Ed) : Value := .agg #[.int .i64 (x.f : Int), .int .i64 (x.t : Int), .int .i64 (x.r : Int)]
set_option maxRecDepth 100000 in
set_option maxHeartbeats 3200000 in
theorem ecmp_any (x y : Ed) (w : World) : Calls Tryz.prog 38 #[edv x, edv y] w fun r w' => r = .returned (.int .i64 (cmpE x y)) ∧ ∃ q os', w' = Go.Sort.grow (w.drewN q) os' := by
 have CM := hide fun a b u => cmp_any a b u
 have OA := hide fun B a b c u => or_any B a b c u
 unfold edv cmpE
 obtain ⟨c1, hc1⟩ : ∃ c, cmpI x.t y.t = c := ⟨_, rfl⟩
 obtain ⟨c2, hc2⟩ : ∃ c, cmpI x.f y.f = c := ⟨_, rfl⟩
 obtain ⟨c3, hc3⟩ : ∃ c, cmpI x.r y.r = c := ⟨_, rfl⟩
 have C1 := hide fun u => cmp_any x.t y.t u
 have C2 := hide fun u => cmp_any x.f y.f u
 have C3 := hide fun u => cmp_any x.r y.r u
 rw [hc1, hc2, hc3]
 rw [hc1] at C1
 rw [hc2] at C2
 rw [hc3] at C3
 clear hc1 hc2 hc3
 obtain ⟨xf, xt, xr⟩ := x
 obtain ⟨yf, yt, yr⟩ := y
 simp only at *
 obtain ⟨W, hW⟩ : ∃ W, (w.alloc (.cells #[.int .i64 (xf : Int), .int .i64 (xt : Int), .int .i64 (xr : Int)] 70)).alloc (.cells #[.int .i64 (yf : Int), .int .i64 (yt : Int), .int .i64 (yr : Int)] 70) = W := ⟨_, rfl⟩
 go_enter Tryz.func38, Tryz.ntmps38
 go_wp2_with fail
 have X0 : W.heap[w.heap.size]? = some (.cells #[.int .i64 (xf : Int), .int .i64 (xt : Int), .int .i64 (xr : Int)] 70) := by rw [← hW]; exact heap_below (heap_new w _) (below_alloc _ _)
 have Y0 : W.heap[w.heap.size + 1]? = some (.cells #[.int .i64 (yf : Int), .int .i64 (yt : Int), .int .i64 (yr : Int)] 70) := by rw [← hW, ← World.size_alloc w (.cells #[.int .i64 (xf : Int), .int .i64 (xt : Int), .int .i64 (xr : Int)] 70)]; exact (heap_new _ _)
 have WG : Hid (W = Go.Sort.grow w #[.cells #[.int .i64 (xf : Int), .int .i64 (xt : Int), .int .i64 (xr : Int)] 70, .cells #[.int .i64 (yf : Int), .int .i64 (yt : Int), .int .i64 (yr : Int)] 70]) := by
  show W = _
  rw [← hW, Go.Sort.alloc_eq_grow, Go.Sort.alloc_eq_grow, Go.Sort.grow_grow]
  rfl
 have x0 : W.cell? ⟨w.heap.size, 0, none⟩ = some (.int .i64 (xf : Int)) := cell_of X0 0
 have x1 : W.cell? ⟨w.heap.size, 1, none⟩ = some (.int .i64 (xt : Int)) := cell_of X0 1
 have x2 : W.cell? ⟨w.heap.size, 2, none⟩ = some (.int .i64 (xr : Int)) := cell_of X0 2
 have y0 : W.cell? ⟨w.heap.size + 1, 0, none⟩ = some (.int .i64 (yf : Int)) := cell_of Y0 0
 have y1 : W.cell? ⟨w.heap.size + 1, 1, none⟩ = some (.int .i64 (yt : Int)) := cell_of Y0 1
 have y2 : W.cell? ⟨w.heap.size + 1, 2, none⟩ = some (.int .i64 (yr : Int)) := cell_of Y0 2
 clear X0 Y0 hW
 go_region_held3 (fun w' => w'.cell? ⟨w.heap.size, 0, none⟩ = some (.int .i64 (xf : Int)) ∧ w'.cell? ⟨w.heap.size, 1, none⟩ = some (.int .i64 (xt : Int)) ∧ w'.cell? ⟨w.heap.size, 2, none⟩ = some (.int .i64 (xr : Int)) ∧ w'.cell? ⟨w.heap.size + 1, 0, none⟩ = some (.int .i64 (yf : Int)) ∧ w'.cell? ⟨w.heap.size + 1, 1, none⟩ = some (.int .i64 (yt : Int)) ∧ w'.cell? ⟨w.heap.size + 1, 2, none⟩ = some (.int .i64 (yr : Int)))
  (go_keep)
  (first
    | (go_at_call_of 71 (Value.int IntKind.i64 (xt : Int)); refine (C1.out _).mono ?_; rintro r u ⟨rfl, rfl⟩)
    | (go_at_call_of 71 (Value.int IntKind.i64 (xf : Int)); refine (C2.out _).mono ?_; rintro r u ⟨rfl, rfl⟩)
    | (go_at_call_of 71 (Value.int IntKind.i64 (xr : Int)); refine (C3.out _).mono ?_; rintro r u ⟨rfl, rfl⟩)
    | (go_at_call 70; refine (OA.out _ c1 c2 c3 _ (by simp) (by simp) (by simp)).mono ?_; rintro r u ⟨rfl, rfl⟩))
 obtain ⟨OS, WE⟩ : ∃ OS, W = Go.Sort.grow w OS := ⟨_, WG.out⟩
 go_wp2_with fail
 go_ret
 refine ⟨rfl, 1, OS ++ #[.cells #[.int .i64 c1, .int .i64 c2, .int .i64 c3] 3], ?_⟩
 rw [WE, Go.Sort.alloc_eq_grow, Go.Sort.grow_grow, Go.Sort.drew_grow]
 rfl
end Eg
end Go.Proofs.YtblfimobiibmjaaGreat
namespace Go.Proofs.YtblfimobiibmjaaGreat
open Go.ChangeShapes Go.WideShapes Go.ChangeAt Go.RowKit
namespace Eg
open En Gu Ba
theorem grown_refl (w : World) (o : Option Nat) : w.grownBy w o := ⟨rfl, rfl, rfl, Nat.le_refl _, fun _ _ _ => rfl⟩
theorem grown_more {w W : World} {o : Option Nat} (h : w.grownBy W none) : w.grownBy W o := ⟨h.os, h.tape, h.output, h.size, fun k hk _ => h.block k hk (by simp)⟩
theorem grown_of {w W : World} (h : Below w.heap.size w W) : w.grownBy W none := ⟨h.os, h.tape, h.output, h.size, fun k hk _ => h.block k hk⟩
theorem below_of {w W : World} (h : w.grownBy W none) : Below w.heap.size w W := ⟨h.os, h.tape, h.output, h.size, fun k hk => h.block k hk (by simp)⟩
def Ow (w : World) (B : Nat) (v : Value) (l : List Ed) : Prop := w.ownsRow B 70 3 v l.length (edc l)
theorem Ow.sl {w : World} {B : Nat} {v : Value} {l : List Ed} (h : Ow w B v l) : ∃ oa c, v = .slice oa l.length c ∧ l.length ≤ c ∧ c ≤ maxLen := by
 rcases h.2 with ⟨rfl, h0⟩ | ⟨g, cap, cur, rfl, -, -, h1, h2, -⟩
 ·exact ⟨none, 0, by rw [h0], by omega, Nat.zero_le _⟩
 ·exact ⟨_, _, rfl, h1, h2⟩
theorem Ow.cell {w : World} {B : Nat} {oa : Option Addr} {c k : Nat} {l : List Ed} {x : Ed} (h : Ow w B (.slice oa l.length c) l) (hk : l[k]? = some x) :
 ∃ g, oa = some ⟨g, 0, none⟩ ∧ w.cell? ⟨g, k * 3, none⟩ = some (.int .i64 (x.f : Int)) ∧ w.cell? ⟨g, k * 3 + 1, none⟩ = some (.int .i64 (x.t : Int)) ∧ w.cell? ⟨g, k * 3 + 2, none⟩ = some (.int .i64 (x.r : Int)) := by
 have hl := (List.getElem?_eq_some_iff.1 hk).1
 obtain ⟨g, rfl, -, -, hc⟩ := own_cells h (by omega)
 obtain ⟨a, b, d⟩ := edc_at l k x hk
 exact ⟨g, rfl, hc _ _ a, hc _ _ b, hc _ _ d⟩
theorem Ow.mono {w : World} {B B' : Nat} {v : Value} {l : List Ed} (h : Ow w B v l) (hb : B' ≤ B) : Ow w B' v l := by
 refine ⟨h.1, ?_⟩
 rcases h.2 with q | ⟨g, cap, cur, q1, q2, q3⟩
 ·exact .inl q
 ·exact .inr ⟨g, cap, cur, q1, by omega, q3⟩
theorem Ow.below {w w' : World} {B : Nat} {v : Value} {l : List Ed} (h : Ow w B v l) (hb : Below w.heap.size w w') : Ow w' B v l := own_below h hb
theorem Ow.nil (w : World) (B : Nat) : Ow w B (.slice none 0 0) [] := ⟨rfl, .inl ⟨rfl, rfl⟩⟩
def put3 (w : World) (A o : Nat) (x y z : Value) : World := ((w.setCell ⟨A, o, none⟩ x).setCell ⟨A, o + 1, none⟩ y).setCell ⟨A, o + 2, none⟩ z
theorem put3_other (w : World) (A o : Nat) (x y z : Value) (k : Nat) (hk : k ≠ A) : (put3 w A o x y z).heap[k]? = w.heap[k]? := by
 unfold put3
 rw [Below.heap_setCell _ _ _ _ hk, Below.heap_setCell _ _ _ _ hk, Below.heap_setCell _ _ _ _ hk]
theorem put3_below {N : Nat} (w : World) (A o : Nat) (x y z : Value) (hA : N ≤ A) : Below N w (put3 w A o x y z) :=
 ⟨rfl, rfl, rfl, by simp [put3, World.setCell], fun k hk => put3_other w A o x y z k (by omega)⟩
theorem zc_len (n : Nat) : (Builtin.zeroCells (Value.agg #[.int .i64 0, .int .i64 0, .int .i64 0]).cells n).toList.length = n * 3 := by
 simp [Builtin.zeroCells, Value.cells]
def fl (p : Ed → Bool) (l : List Ed) (j : Nat) : List Ed := (l.take j).filter fun x => !p x
theorem own_mk {W : World} {B g cap : Nat} {cur : Array Value} {m : List Ed} (hB : B ≤ g) (hg : W.heap[g]? = some (.cells cur 70 (0, 0))) (hs : cur.size = cap * 3) (hl : m.length ≤ cap) (hm : cap ≤ maxLen) (hc : ∀ k, k < m.length * 3 → cur[k]? = (edc m)[k]?) :
 Ow W B (.slice (some ⟨g, 0, none⟩) m.length cap) m := by
 refine ⟨edc_len m, .inr ⟨g, cap, cur, rfl, hB, hg, hl, hm, by omega, ?_⟩⟩
 apply List.ext_getElem?
 intro k
 rw [List.getElem?_take]
 by_cases hk : k < m.length * 3
 ·rw [if_pos (by omega), ← hc k hk]; simp
 ·rw [if_neg (by omega), List.getElem?_eq_none (by rw [edc_len]; omega)]
theorem own_cur {W : World} {B g cap : Nat} {m : List Ed} (h : Ow W B (.slice (some ⟨g, 0, none⟩) m.length cap) m) :
 ∃ cur, W.heap[g]? = some (.cells cur 70 (0, 0)) ∧ B ≤ g ∧ cur.size = cap * 3 ∧ m.length ≤ cap ∧ cap ≤ maxLen ∧ ∀ k, k < m.length * 3 → cur[k]? = (edc m)[k]? := by
 rcases h.2 with ⟨e, -⟩ | ⟨g', cap', cur, e, hb, hg, h1, h2, h3, h4⟩
 ·cases e
 ·simp only [Value.slice.injEq, Option.some.injEq, Addr.mk.injEq, and_true, true_and] at e
  obtain ⟨rfl, rfl⟩ := e
  refine ⟨cur, hg, hb, by omega, h1, h2, fun k hk => ?_⟩
  rw [← h4, List.getElem?_take, if_pos (by omega)]
  simp
end Eg
end Go.Proofs.YtblfimobiibmjaaGreat
