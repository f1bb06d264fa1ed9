import Derived.Test.YtblfimobiibmjaaGreatZjAh9
import Derived.LoopN
import Derived.Deep.RegionHeld3
import Derived.Deep.AppendLies
import Derived.Deep.Slices
import Derived.ShutString
import Derived.ChangeOld
import Derived.Laws.AppendOwn
import Derived.Lib.AppendZeros
import Derived.Deep.RegionWith
import Derived.Maps.AppendAt
/- Package crew, over this seat's program: Spawn. -/
namespace Go.Proofs.YtblfimobiibmjaaGreat
open Go.ChangeShapes Go.WideShapes Go.ChangeAt Go.RowKit
namespace Cr
open Ba

/-- what an append of one record leaves, behind the store into the header -/
theorem Cw.grow {T E : TypeId} {w w1 w2 : World} {B : Nat} {F : Nat → Prop} {oa oa' : Option Addr} {c c' : Nat} {l : List Mb} {x : Mb} (h : Cw T E w1 B F oa c l) (b1 : Below w.heap.size w w1) (hF : Bd F w) (hT : T ≠ E)
    (ho : w2.ownsRow 0 E 3 (.slice oa' (l ++ [x]).length c') (l ++ [x]).length (mc (l ++ [x]))) (hg : w1.grownBy w2 (Value.slice oa l.length c).ownBlock)
    (hat : (Value.slice oa' (l ++ [x]).length c').ownBlock = (Value.slice oa l.length c).ownBlock ∨ (Value.slice oa' (l ++ [x]).length c').ownBlock = some w1.heap.size) (hl : l.length < 512) :
    Po T E w (w2.setCell ⟨B, 0, none⟩ (.slice oa' (l ++ [x]).length c')) B F (l ++ [x]) := by
  have hB : some B ≠ (Value.slice oa l.length c).ownBlock := own_ty h.ow h.hp hT
  have hB2 : w2.heap[B]? = some (.cells #[.slice oa l.length c] T (0, 0)) := (hg.block B h.lt hB).trans h.hp
  have kf : KF F w w2 := by
    refine ⟨hg.os.trans b1.os, hg.tape.trans b1.tape, hg.output.trans b1.output, Nat.le_trans b1.size hg.size, fun k hk hn => ?_⟩
    refine (hg.block k (Nat.lt_of_lt_of_le hk b1.size) ?_).trans (b1.block k hk)
    intro e
    exact hn (h.fr k e.symm)
  refine ⟨_, ⟨oa', c', Cw.put hB2 ho hT h.fb ((hF.mono b1.size).mono hg.size) (by simp; omega)⟩, kf.set h.fb _ _, ?_⟩
  intro k hk
  rcases hk with q | q
  · exact .inl q
  · rcases hat with e | e
    · rw [e] at q
      exact .inl (h.fr k q)
    · rw [e] at q
      cases q
      exact .inr b1.size
end Cr
end Go.Proofs.YtblfimobiibmjaaGreat
/- Package crew, over this seat's program: Able, Over. -/
namespace Go.Proofs.YtblfimobiibmjaaGreat
open Go.ChangeShapes Go.WideShapes Go.ChangeAt Go.RowKit
namespace Cr
open Ba

def ic (l : List Int) : List Value := l.map (Value.int .i64)
theorem ic_app (l m : List Int) : ic (l ++ m) = ic l ++ ic m := by simp [ic]
theorem info_i : (Tryz.prog.info? 3).map (fun i => (i.zero, i.size, i.bytes)) = some (some (.int .i64 0), 1, 8) := by kernel_rfl
theorem own_at {w : World} {base : Nat} {v : Value} {l : List Int} (h : w.ownsRow base 3 1 v l.length (ic l)) : ∃ oa c, v = .slice oa l.length c ∧ At w oa l ∧ l.length ≤ c := by
  rcases h.2 with ⟨rfl, h0⟩ | ⟨g, cap, cur, rfl, _, hg, hc, _, hcs, htk⟩
  · refine ⟨none, 0, by rw [h0], ?_, by omega⟩
    obtain rfl := List.eq_nil_of_length_eq_zero h0
    exact At.nil _ _
  · refine ⟨_, cap, rfl, ?_, hc⟩
    intro k hk
    refine ⟨g, 0, rfl, ?_⟩
    have q : (ic l)[k]? = some (.int .i64 (nth l k)) := by simp [ic, nth, hk]
    rw [← htk, List.getElem?_take_of_lt (by omega)] at q
    rw [Nat.zero_add, cell_of hg]
    simpa using q
end Cr
end Go.Proofs.YtblfimobiibmjaaGreat
/- Package deed: operations; isCount, upTo, reach, isCase, over this seat's program. -/
namespace Go.Proofs.YtblfimobiibmjaaGreat
open Go.ChangeShapes Go.WideShapes Go.ChangeAt Go.RowKit
namespace De
open Ba Re

/-- a case -/
structure Cs where
  send : Bool
  ch : Int
  val : Int
/-- an operation -/
structure OpD where
  kind : Int
  a : Int
  b : Int
  cases : List Cs
  def_ : Bool
/-- the cells from oa on hold cases -/
def CAt (w : World) (oa : Option Addr) (l : List Cs) : Prop :=
  ∀ k, ∀ x, l[k]? = some x → ∃ b off, oa = some ⟨b, off, none⟩ ∧ w.cell? ⟨b, off + k * 3, none⟩ = some (.bool x.send) ∧ w.cell? ⟨b, off + k * 3 + 1, none⟩ = some (.int .i64 x.ch) ∧ w.cell? ⟨b, off + k * 3 + 2, none⟩ = some (.int .i64 x.val)
theorem CAt.below {w w' : World} {oa : Option Addr} {l : List Cs} (h : CAt w oa l) (hb : Below w.heap.size w w') : CAt w' oa l := by
  intro k x hk
  obtain ⟨b, off, he, h1, h2, h3⟩ := h k x hk
  exact ⟨b, off, he, (hb.cell (World.block_lt_of_cell? w _ h1)).trans h1, (hb.cell (World.block_lt_of_cell? w _ h2)).trans h2, (hb.cell (World.block_lt_of_cell? w _ h3)).trans h3⟩
theorem CAt.nil (w : World) (oa : Option Addr) : CAt w oa [] := fun k x hk => by simp at hk

def okP (p : Int) : Bool := decide (1 ≤ p) && decide (p ≤ 8)
def upB (n m : Int) : Bool := decide (0 ≤ n) && decide (n ≤ m)
/-- how far A and B go -/
def mA (k p : Int) : Int := if k = 1 then p - 1 else if k = 2 ∨ k = 3 ∨ k = 4 ∨ k = 5 ∨ k = 7 ∨ k = 8 then 7 else 0
def mB (k : Int) : Int := if k = 2 then 4 else if k = 3 then 99 else 0
theorem kind_cases {k : Int} (h1 : 1 ≤ k) (h2 : k ≤ 9) : k = 1 ∨ k = 2 ∨ k = 3 ∨ k = 4 ∨ k = 5 ∨ k = 6 ∨ k = 7 ∨ k = 8 ∨ k = 9 := by omega
/-- a case is right -/
def okC (x : Cs) : Bool := upB x.ch 7 && upB x.val (bif x.send then 99 else 0)
/-- an operation as a value, its cases at oa -/
def opA (o : OpD) (oa : Option Addr) (c : Nat) : Array Value := #[.int .i64 o.kind, .int .i64 o.a, .int .i64 o.b, .slice oa o.cases.length c, .bool o.def_]
/-- what Check answers -/
def chk (o : OpD) (p : Int) : Int :=
  if (okP p && (decide (1 ≤ o.kind) && decide (o.kind ≤ 9))) = false then 1
  else if 4 < o.cases.length then 2
  else if (upB o.a (mA o.kind p) && upB o.b (mB o.kind)) = false then 4
  else if o.kind ≠ 6 ∧ (o.def_ || decide (0 < o.cases.length)) = true then 4
  else if o.cases.all okC then 0 else 4

end De
end Go.Proofs.YtblfimobiibmjaaGreat
/- Package deed: Check, over this seat's program. -/
namespace Go.Proofs.YtblfimobiibmjaaGreat
open Go.ChangeShapes Go.WideShapes Go.ChangeAt Go.RowKit
namespace De
open Ba Re

theorem all_no {l : List Cs} {j : Nat} {x : Cs} (hx : l[j]? = some x) (h : okC x = false) : l.all okC = false := by
  rw [List.all_eq_false]
  exact ⟨x, List.mem_of_getElem? hx, by simp [h]⟩
theorem all_yes {l : List Cs} (h : ∀ (q : Nat) (x : Cs), l[q]? = some x → okC x = true) : l.all okC = true := by
  rw [List.all_eq_true]
  intro x hx
  obtain ⟨q, hq⟩ := List.getElem?_of_mem hx
  exact h q x hq
theorem okP_iff (p : Int) : okP p = true ↔ 1 ≤ p ∧ p ≤ 8 := by simp [okP]

end De
end Go.Proofs.YtblfimobiibmjaaGreat
/- Package deed: fields, bit, numbers, over this seat's program. -/
namespace Go.Proofs.YtblfimobiibmjaaGreat
open Go.ChangeShapes Go.WideShapes Go.ChangeAt Go.RowKit
namespace De
open Ba Re

/-- how many of A and B a kind's bytes tell -/
def nf (k : Int) : Nat := if k = 2 ∨ k = 3 then 2 else if k = 1 ∨ k = 4 ∨ k = 5 ∨ k = 7 ∨ k = 8 then 1 else 0
def bt (b : Bool) : Int := bif b then 1 else 0
/-- a case's numbers -/
def cn (x : Cs) : List Int := [bt x.send, x.ch, x.val]
/-- the numbers of an operation's bytes -/
def nums (o : OpD) : List Int := o.kind :: [o.a, o.b].take (nf o.kind) ++ (bif o.kind == 6 then bt o.def_ :: (o.cases.length : Int) :: o.cases.flatMap cn else [])

theorem heap_lt {w : World} {b : Nat} {o : Obj} (h : w.heap[b]? = some o) : b < w.heap.size := by
  rcases Nat.lt_or_ge b w.heap.size with q | q
  · exact q
  · rw [Array.getElem?_eq_none q] at h; cases h
theorem own_ne {w : World} {base : Nat} {v : Value} {n g : Nat} {xs : List Value} {c : Array Value} {t : TypeId} {fr : Nat × Nat} (h : w.ownsRow base 3 1 v n xs) (hg : w.heap[g]? = some (.cells c t fr)) (ht : t ≠ 3) : some g ≠ v.ownBlock := by
  intro e
  rcases h.2 with ⟨rfl, _⟩ | ⟨b, cap, cur, rfl, _, hb, _⟩
  · simp [Value.ownBlock] at e
  · simp [Value.ownBlock] at e
    subst e
    rw [hg] at hb
    simp at hb
    exact ht hb.2.1
theorem flat_take (l : List Cs) (k : Nat) (x : Cs) (h : l[k]? = some x) : (l.take (k + 1)).flatMap cn = (l.take k).flatMap cn ++ [bt x.send, x.ch, x.val] := by
  rw [List.take_add_one, h, List.flatMap_append]
  simp [cn]
theorem flat_len (l : List Cs) (k : Nat) : ((l.take k).flatMap cn).length ≤ 3 * k := by
  induction k generalizing l with
  | zero => simp
  | succ k ih =>
    cases l with
    | nil => simp
    | cons x t =>
      have := ih t
      simp [cn] at this ⊢
      omega
theorem nf_le (k : Int) : nf k ≤ 2 := by
  unfold nf
  repeat' split
  all_goals omega
theorem src_new (w : World) (xs : List Int) : ∀ j u, (xs.map (Value.int .i64))[j]? = some u → (w.alloc (.cells (row xs) 3)).cell? (Addr.add ⟨w.heap.size, 0, none⟩ j) = some u := by
  intro j u hj
  rw [Addr.add_lit, Nat.zero_add, cell_of (heap_new _ _)]
  simpa [row] using hj
/-- what the making of an operation's numbers keeps: the operation at B, the places of A and B at G, the numbers so far -/
structure NK (w wr : World) (B G : Nat) (k a b : Int) (s : Value) (d : Bool) (v : Value) (xs : List Int) : Prop where
  op : wr.heap[B]? = some (.cells #[.int .i64 k, .int .i64 a, .int .i64 b, s, .bool d] 64 (0, 0))
  pt : wr.heap[G]? = some (.cells #[.pointer (some ⟨B, 1, none⟩), .pointer (some ⟨B, 2, none⟩)] 229 (0, 0))
  own : wr.ownsRow w.heap.size 3 1 v xs.length (xs.map (Value.int .i64))
  bel : Below w.heap.size w wr
theorem NK.below {w wr wr' : World} {B G : Nat} {k a b : Int} {s v : Value} {d : Bool} {xs : List Int} (h : NK w wr B G k a b s d v xs) (hb : Below wr.heap.size wr wr') : NK w wr' B G k a b s d v xs :=
  ⟨heap_below h.op hb, heap_below h.pt hb, owns_below h.own hb, btr h.bel hb⟩
theorem NK.grown {w wr wr' : World} {B G : Nat} {k a b : Int} {s v v' : Value} {d : Bool} {xs xs' : List Int} (h : NK w wr B G k a b s d v xs) (hg : wr.grownBy wr' v.ownBlock) (ho : wr'.ownsRow w.heap.size 3 1 v' xs'.length (xs'.map (Value.int .i64))) : NK w wr' B G k a b s d v' xs' :=
  ⟨(hg.block B (heap_lt h.op) (own_ne h.own h.op (by decide))).trans h.op, (hg.block G (heap_lt h.pt) (own_ne h.own h.pt (by decide))).trans h.pt, ho, h.bel.grown hg h.bel.size (fun x hx => (h.own.lt x hx).1)⟩

end De
end Go.Proofs.YtblfimobiibmjaaGreat
/- Package deed: Encode, over this seat's program. -/
namespace Go.Proofs.YtblfimobiibmjaaGreat
open Go.ChangeShapes Go.WideShapes Go.ChangeAt Go.RowKit
namespace De
open Ba Re

/-- the bytes of numbers, one behind the other -/
def pls (l : List Int) : List Nat := l.flatMap fun n => spl n.toNat
theorem pls_take (l : List Int) (k : Nat) (h : k < l.length) : pls (l.take (k + 1)) = pls (l.take k) ++ spl (nth l k).toNat := by
  rw [pls, List.take_add_one, List.getElem?_eq_getElem h, nth_lt l k h, List.flatMap_append]
  show _ ++ (spl _ ++ []) = _
  rw [List.append_nil]
  rfl
theorem pls_len (l : List Int) : (pls l).length ≤ 7 * l.length := by
  induction l with
  | nil => simp [pls]
  | cons n l ih =>
    have := (spl_len n.toNat).2
    simp [pls] at ih ⊢
    omega

theorem nums_len (o : OpD) (hl : o.cases.length ≤ 4) : (nums o).length ≤ 100 := by
  have h1 := flat_len o.cases o.cases.length
  rw [List.take_length] at h1
  unfold nums
  rw [List.length_append, List.length_cons, List.length_take]
  cases o.kind == 6
  · simp only [cond_false, List.length_nil, List.length_cons]
    omega
  · simp only [cond_true, List.length_nil, List.length_cons]
    omega

theorem upB_iff (n m : Int) : upB n m = true ↔ 0 ≤ n ∧ n ≤ m := by simp [upB]
theorem mA_le (k p : Int) (hp : p ≤ 8) : mA k p ≤ 7 := by
  unfold mA
  repeat' split
  all_goals omega
theorem mB_le (k : Int) : mB k ≤ 99 := by
  unfold mB
  repeat' split
  all_goals omega
/-- what a right operation is -/
theorem chk_zero {o : OpD} {p : Int} (h : chk o p = 0) : (1 ≤ p ∧ p ≤ 8) ∧ (1 ≤ o.kind ∧ o.kind ≤ 9) ∧ o.cases.length ≤ 4 ∧ (0 ≤ o.a ∧ o.a ≤ mA o.kind p) ∧ (0 ≤ o.b ∧ o.b ≤ mB o.kind) ∧ (o.kind = 6 ∨ (o.def_ = false ∧ o.cases = [])) ∧ (∀ x ∈ o.cases, okC x = true) := by
  unfold chk at h
  by_cases h1 : (okP p && (decide (1 ≤ o.kind) && decide (o.kind ≤ 9))) = false
  · rw [if_pos h1] at h; omega
  · rw [if_neg h1] at h
    by_cases h2 : 4 < o.cases.length
    · rw [if_pos h2] at h; omega
    · rw [if_neg h2] at h
      by_cases h3 : (upB o.a (mA o.kind p) && upB o.b (mB o.kind)) = false
      · rw [if_pos h3] at h; omega
      · rw [if_neg h3] at h
        by_cases h4 : o.kind ≠ 6 ∧ (o.def_ || decide (0 < o.cases.length)) = true
        · rw [if_pos h4] at h; omega
        · rw [if_neg h4] at h
          cases h5 : o.cases.all okC
          · rw [h5] at h; simp at h
          · have q1 : okP p = true ∧ 1 ≤ o.kind ∧ o.kind ≤ 9 := by simpa using h1
            have q3 : upB o.a (mA o.kind p) = true ∧ upB o.b (mB o.kind) = true := by simpa using h3
            refine ⟨(okP_iff p).1 q1.1, q1.2, by omega, (upB_iff _ _).1 q3.1, (upB_iff _ _).1 q3.2, ?_, List.all_eq_true.1 h5⟩
            by_cases e : o.kind = 6
            · exact .inl e
            · right
              have : ¬ ((o.def_ || decide (0 < o.cases.length)) = true) := fun q => h4 ⟨e, q⟩
              simpa using this
theorem okC_bd {x : Cs} (h : okC x = true) : (0 ≤ x.ch ∧ x.ch ≤ 7) ∧ 0 ≤ x.val ∧ x.val ≤ 99 := by
  unfold okC at h
  rw [Bool.and_eq_true, upB_iff, upB_iff] at h
  refine ⟨h.1, h.2.1, ?_⟩
  cases hs : x.send
  · rw [hs] at h; have := h.2.2; simp at this; omega
  · rw [hs] at h; exact h.2.2
theorem bt_bd (b : Bool) : 0 ≤ bt b ∧ bt b ≤ 1 := by cases b <;> decide
theorem nums_ok {o : OpD} {p : Int} (h : chk o p = 0) : ∀ n ∈ nums o, okR n = true := by
  obtain ⟨hp, hk, hl, ha, hb, _, hc⟩ := chk_zero h
  have h1 := mA_le o.kind p hp.2
  have h2 := mB_le o.kind
  intro n hn
  rw [okR_iff]
  unfold nums at hn
  rw [List.mem_append, List.mem_cons] at hn
  rcases hn with (rfl | hn) | hn
  · omega
  · have := List.mem_of_mem_take hn
    simp at this
    rcases this with rfl | rfl <;> omega
  · cases h6 : o.kind == 6
    · rw [h6] at hn; simp at hn
    · rw [h6] at hn
      simp only [cond_true, List.mem_cons, List.mem_flatMap] at hn
      rcases hn with rfl | rfl | ⟨x, hx, hn⟩
      · have := bt_bd o.def_; omega
      · omega
      · have q1 := okC_bd (hc x hx)
        have q2 := bt_bd x.send
        simp [cn] at hn
        rcases hn with rfl | rfl | rfl <;> omega
end De
end Go.Proofs.YtblfimobiibmjaaGreat
/- Package deed: the reader's number, upTo, bit, over this seat's program. -/
namespace Go.Proofs.YtblfimobiibmjaaGreat
open Go.ChangeShapes Go.WideShapes Go.ChangeAt Go.RowKit
namespace De
open Ba Re

/-- from w to w' at most block R has changed, of those that were there -/
structure KB (R : Nat) (w w' : World) : Prop where
  os : w'.os = w.os
  tape : w'.tape = w.tape
  output : w'.output = w.output
  size : w.heap.size ≤ w'.heap.size
  block : ∀ k, k < w.heap.size → k ≠ R → w'.heap[k]? = w.heap[k]?
theorem KB.refl (R : Nat) (w : World) : KB R w w := ⟨rfl, rfl, rfl, Nat.le_refl _, fun _ _ _ => rfl⟩
theorem KB.trans {R : Nat} {a b c : World} (h : KB R a b) (k : KB R b c) : KB R a c :=
  ⟨k.os.trans h.os, k.tape.trans h.tape, k.output.trans h.output, Nat.le_trans h.size k.size, fun x hx hr => (k.block x (Nat.lt_of_lt_of_le hx h.size) hr).trans (h.block x hx hr)⟩
theorem KB.of {R : Nat} {a b : World} (h : Below a.heap.size a b) : KB R a b := ⟨h.os, h.tape, h.output, h.size, fun x hx _ => h.block x hx⟩
theorem KB.setCell {R : Nat} {a b : World} (h : KB R a b) (i : Nat) (v : Value) : KB R a (b.setCell ⟨R, i, none⟩ v) :=
  ⟨h.os, h.tape, h.output, by show _ ≤ (b.setCell _ _).heap.size; simp [World.setCell]; exact h.size, fun x hx hr => (Below.heap_setCell _ _ _ _ hr).trans (h.block x hx hr)⟩
theorem KB.below {R : Nat} {w a b : World} (h : Below w.heap.size w a) (k : KB R a b) (hR : w.heap.size ≤ R) : Below w.heap.size w b :=
  ⟨k.os.trans h.os, k.tape.trans h.tape, k.output.trans h.output, Nat.le_trans h.size k.size, fun x hx => (k.block x (Nat.lt_of_lt_of_le hx h.size) (by omega)).trans (h.block x hx)⟩
theorem KB.heap {R b : Nat} {w w' : World} {o : Obj} (k : KB R w w') (h : w.heap[b]? = some o) (hb : b ≠ R) : w'.heap[b]? = some o :=
  (k.block b (heap_lt h) hb).trans h

/-- one number read -/
def rnum (s : ByteArray) (f : Bool) : Int × ByteArray × Bool :=
  bif f then (0, s, true) else match tk (nbs s) with
    | none => (0, bs [], true)
    | some (n, k) => ((n : Int), s.extract k s.size, false)
theorem rnum_t (s : ByteArray) : rnum s true = (0, s, true) := rfl
theorem rnum_n {s : ByteArray} (h : tk (nbs s) = none) : rnum s false = (0, bs [], true) := by simp [rnum, h]
theorem rnum_s {s : ByteArray} {n k : Nat} (h : tk (nbs s) = some (n, k)) : rnum s false = ((n : Int), s.extract k s.size, false) := by simp [rnum, h]

/-- a number read that is at most so great -/
def rup (m : Int) (s : ByteArray) (f : Bool) : Int × ByteArray × Bool :=
  bif decide (m < (rnum s f).1) then (0, (rnum s f).2.1, true) else rnum s f
end De
end Go.Proofs.YtblfimobiibmjaaGreat
/- Package deed: the reader's op, over this seat's program. -/
namespace Go.Proofs.YtblfimobiibmjaaGreat
open Go.ChangeShapes Go.WideShapes Go.ChangeAt Go.RowKit
namespace De
open Ba Re

/-- the fields that a kind's bytes tell, read: after j of them -/
def rf (s : ByteArray) (f : Bool) : Nat → Int × Int × ByteArray × Bool
  | 0 => (0, 0, s, f)
  | 1 => ((rnum s f).1, 0, (rnum s f).2.1, (rnum s f).2.2)
  | _ => ((rnum s f).1, (rnum (rnum s f).2.1 (rnum s f).2.2).1, (rnum (rnum s f).2.1 (rnum s f).2.2).2.1, (rnum (rnum s f).2.1 (rnum s f).2.2).2.2)

/-- a case read -/
def rc (s : ByteArray) (f : Bool) : Cs × ByteArray × Bool :=
  (⟨(rup 1 s f).1 == 1, (rnum (rup 1 s f).2.1 (rup 1 s f).2.2).1, (rnum (rnum (rup 1 s f).2.1 (rup 1 s f).2.2).2.1 (rnum (rup 1 s f).2.1 (rup 1 s f).2.2).2.2).1⟩, (rnum (rnum (rup 1 s f).2.1 (rup 1 s f).2.2).2.1 (rnum (rup 1 s f).2.1 (rup 1 s f).2.2).2.2).2)
/-- so many cases read -/
def rcs (s : ByteArray) (f : Bool) : Nat → List Cs × ByteArray × Bool
  | 0 => ([], s, f)
  | n + 1 => ((rcs s f n).1 ++ [(rc (rcs s f n).2.1 (rcs s f n).2.2).1], (rc (rcs s f n).2.1 (rcs s f n).2.2).2)
theorem rcs_len (s : ByteArray) (f : Bool) (n : Nat) : (rcs s f n).1.length = n := by
  induction n with
  | zero => rfl
  | succ n ih => simp [rcs, ih]
/-- an operation read -/
def rop (s : ByteArray) (f : Bool) : OpD × ByteArray × Bool :=
  let p := rnum s f
  let q := rf p.2.1 p.2.2 (nf p.1)
  bif p.1 == 6 then
    let d := rup 1 q.2.2.1 q.2.2.2
    let n := rup 4 d.2.1 d.2.2
    let c := rcs n.2.1 n.2.2 n.1.toNat
    (⟨p.1, q.1, q.2.1, c.1, d.1 == 1⟩, c.2)
  else (⟨p.1, q.1, q.2.1, [], false⟩, q.2.2)

theorem kb_setCell {R O : Nat} {w a : World} (h : KB R w a) (hO : w.heap.size ≤ O) (i : Nat) (v : Value) : KB R w (a.setCell ⟨O, i, none⟩ v) :=
  ⟨h.os, h.tape, h.output, by show _ ≤ (a.setCell _ _).heap.size; simp [World.setCell]; exact h.size, fun x hx hr => (Below.heap_setCell _ _ _ _ (by show x ≠ O; omega)).trans (h.block x hx hr)⟩
theorem results_row1 {fn : Func} {p : Tmp} {ty : TypeId} (h : fn.results = #[.cell p ty]) (tmps : Array Value) (w : World) (g : Nat) (cs : Array Value)
    (hp : tmps.getD p undef = .pointer (some ⟨g, 0, none⟩)) (hl : (loadVar ty ⟨g, 0, none⟩).run Tryz.prog w = .ok (.agg cs) w) :
    (results fn tmps).run Tryz.prog w = .ok (.agg cs) w := by
  have hp' : tmps[p]?.getD undef = .pointer (some ⟨g, 0, none⟩) := by simpa using hp
  simp [results, h, hp', asAddr, hl]
theorem size_op : (Tryz.prog.info? 64).map (·.size) = some 5 := by kernel_rfl
theorem loadVar_op {w : World} {b : Nat} {c : Array Value} {t : TypeId} (h : w.heap[b]? = some (.cells c t (0, 0))) (hc : c.size = 5) : (loadVar 64 ⟨b, 0, none⟩).run Tryz.prog w = .ok (.agg c) w :=
  run_loadVar_row w b t _ _ _ _ h Tryz.underlying64 rfl (by rw [size_op, hc])
theorem five_set {w : World} {b : Nat} {x0 x1 x2 x3 x4 : Value} {t : TypeId} (h : w.heap[b]? = some (.cells #[x0, x1, x2, x3, x4] t (0, 0))) (u0 u1 u2 u3 u4 : Value) : (((((w.setCell ⟨b, 0, none⟩ u0).setCell ⟨b, 1, none⟩ u1).setCell ⟨b, 2, none⟩ u2).setCell ⟨b, 3, none⟩ u3).setCell ⟨b, 4, none⟩ u4).heap[b]? = some (.cells #[u0, u1, u2, u3, u4] t (0, 0)) := by
  rw [Ba.heap_setCell_same (Ba.heap_setCell_same (Ba.heap_setCell_same (Ba.heap_setCell_same (Ba.heap_setCell_same h u0) u1) u2) u3) u4]
  rfl
theorem five_other {w : World} (Z b : Nat) (h : b ≠ Z) (u0 u1 u2 u3 u4 : Value) : (((((w.setCell ⟨Z, 0, none⟩ u0).setCell ⟨Z, 1, none⟩ u1).setCell ⟨Z, 2, none⟩ u2).setCell ⟨Z, 3, none⟩ u3).setCell ⟨Z, 4, none⟩ u4).heap[b]? = w.heap[b]? := by
  rw [Below.heap_setCell _ _ _ _ h, Below.heap_setCell _ _ _ _ h, Below.heap_setCell _ _ _ _ h, Below.heap_setCell _ _ _ _ h, Below.heap_setCell _ _ _ _ h]
theorem kb_five {R Z : Nat} {w a : World} (h : KB R w a) (hZ : w.heap.size ≤ Z) (u0 u1 u2 u3 u4 : Value) : KB R w (((((a.setCell ⟨Z, 0, none⟩ u0).setCell ⟨Z, 1, none⟩ u1).setCell ⟨Z, 2, none⟩ u2).setCell ⟨Z, 3, none⟩ u3).setCell ⟨Z, 4, none⟩ u4) :=
  kb_setCell (kb_setCell (kb_setCell (kb_setCell (kb_setCell h hZ _ _) hZ _ _) hZ _ _) hZ _ _) hZ _ _
theorem kb_drew {R : Nat} {w w' : World} (h : KB R w.drew w') : KB R w w' := ⟨h.os, h.tape, h.output, h.size, h.block⟩
theorem three_other {w : World} (C i0 i1 i2 b i : Nat) (h : b ≠ C) (u0 u1 u2 : Value) : (((w.setCell ⟨C, i0, none⟩ u0).setCell ⟨C, i1, none⟩ u1).setCell ⟨C, i2, none⟩ u2).cell? ⟨b, i, none⟩ = w.cell? ⟨b, i, none⟩ := by
  simp only [World.cell?]
  rw [Below.heap_setCell _ _ _ _ h, Below.heap_setCell _ _ _ _ h, Below.heap_setCell _ _ _ _ h]
theorem kb_cell {R b i : Nat} {w w' : World} {v : Value} (k : KB R w w') (h : w.cell? ⟨b, i, none⟩ = some v) (hb : b ≠ R) : w'.cell? ⟨b, i, none⟩ = some v := by
  have := World.block_lt_of_cell? w _ h
  rw [World.cell?] at h ⊢
  rw [k.block b this hb]
  exact h
/-- a case's cells -/
def cc (x : Cs) : List Value := [.bool x.send, .int .i64 x.ch, .int .i64 x.val]
/-- cases, and empty ones behind them -/
def cfill (l : List Cs) (n : Nat) : Array Value := (l.flatMap cc ++ (List.replicate (n - l.length) (cc ⟨false, 0, 0⟩)).flatten).toArray
theorem info_case : (Tryz.prog.info? 166).map (fun i => (i.zero, i.size, i.bytes)) = some (some (.agg #[.bool false, .int .i64 0, .int .i64 0]), 3, 24) := by kernel_rfl
theorem made_cases (n : Nat) (hn : n ≤ 4) : madeCells #[Value.bool false, .int .i64 0, .int .i64 0] (n * 3) = cfill [] n := by
  match n, hn with
  | 0, _ =>
    apply Array.toList_inj.1
    rw [madeCells, Array.toList_map, Array.toList_range]
    rfl
  | 1, _ =>
    apply Array.toList_inj.1
    rw [madeCells, Array.toList_map, Array.toList_range]
    rfl
  | 2, _ =>
    apply Array.toList_inj.1
    rw [madeCells, Array.toList_map, Array.toList_range]
    rfl
  | 3, _ =>
    apply Array.toList_inj.1
    rw [madeCells, Array.toList_map, Array.toList_range]
    rfl
  | 4, _ =>
    apply Array.toList_inj.1
    rw [madeCells, Array.toList_map, Array.toList_range]
    rfl
theorem run_mkc (w : World) (n : Nat) (hn : n ≤ 4) : (Instr.makeSlice 62 (.int .i64 (n : Int)) (.int .i64 (n : Int))).run Tryz.prog w = .ok (.slice (some ⟨w.heap.size, 0, none⟩) n n) (w.alloc (.cells (cfill [] n) 166)) := by
  obtain ⟨i0, hi, hz0, hz1, hz2⟩ := info_parts info_case
  have := run_make (P := Tryz.prog) w 62 166 i0 (.agg #[.bool false, .int .i64 0, .int .i64 0]) Tryz.underlying62 hi hz0 .i64 .i64 n n (by omega) (Int.le_refl _) (by rw [hz2]; omega) (by omega)
  rw [hz1, Int.toNat_natCast] at this
  rw [← made_cases n hn]
  exact this
theorem flat_cc_len (l : List Cs) : (l.flatMap cc).length = l.length * 3 := by
  induction l with
  | nil => rfl
  | cons x t ih => simp [cc] at ih ⊢; omega
theorem flat_cc_at (l : List Cs) (R : List Value) (k : Nat) (x : Cs) (h : l[k]? = some x) : (l.flatMap cc ++ R)[k * 3]? = some (.bool x.send) ∧ (l.flatMap cc ++ R)[k * 3 + 1]? = some (.int .i64 x.ch) ∧ (l.flatMap cc ++ R)[k * 3 + 2]? = some (.int .i64 x.val) := by
  induction l generalizing k with
  | nil => simp at h
  | cons y t ih =>
    cases k with
    | zero =>
      simp at h
      subst h
      simp [cc]
    | succ k =>
      simp at h
      have := ih k h
      rw [show (k + 1) * 3 = k * 3 + 3 by omega, List.flatMap_cons, List.append_assoc]
      have e : ∀ i, (cc y ++ (t.flatMap cc ++ R))[i + 3]? = (t.flatMap cc ++ R)[i]? := fun i => by
        rw [List.getElem?_append_right (by simp [cc])]
        simp [cc]
      rw [e, show k * 3 + 3 + 1 = k * 3 + 1 + 3 by omega, e, show k * 3 + 3 + 2 = k * 3 + 2 + 3 by omega, e]
      exact this
theorem cat_fill {w : World} {b n : Nat} {l : List Cs} {t : TypeId} (h : w.heap[b]? = some (.cells (cfill l n) t (0, 0))) : CAt w (some ⟨b, 0, none⟩) l := by
  intro k x hk
  obtain ⟨q0, q1, q2⟩ := flat_cc_at l (List.replicate (n - l.length) (cc ⟨false, 0, 0⟩)).flatten k x hk
  refine ⟨b, 0, rfl, ?_, ?_, ?_⟩
  · rw [Nat.zero_add, cell_of h]; simpa [cfill] using q0
  · rw [Nat.zero_add, cell_of h]; simpa [cfill] using q1
  · rw [Nat.zero_add, cell_of h]; simpa [cfill] using q2
theorem cfill_size (l : List Cs) (n : Nat) (h : l.length ≤ n) : (cfill l n).size = n * 3 := by
  have e : ∀ q, ((List.replicate q (cc ⟨false, 0, 0⟩)).flatten).length = q * 3 := fun q => by simp [cc]
  show (l.flatMap cc ++ (List.replicate (n - l.length) (cc ⟨false, 0, 0⟩)).flatten).toArray.size = _
  rw [List.size_toArray, List.length_append, flat_cc_len, e]
  omega
theorem fill_cells {w : World} {b n j : Nat} {l : List Cs} {t : TypeId} (h : w.heap[b]? = some (.cells (cfill l n) t (0, 0))) (hl : l.length ≤ n) (hj : j < n) : ∃ v0 v1 v2, w.cell? ⟨b, j * 3, none⟩ = some v0 ∧ w.cell? ⟨b, j * 3 + 1, none⟩ = some v1 ∧ w.cell? ⟨b, j * 3 + 2, none⟩ = some v2 ∧ w.frozen? ⟨b, j * 3, none⟩ = false ∧ w.frozen? ⟨b, j * 3 + 1, none⟩ = false ∧ w.frozen? ⟨b, j * 3 + 2, none⟩ = false := by
  have hs := cfill_size l n hl
  refine ⟨(cfill l n)[j * 3], (cfill l n)[j * 3 + 1], (cfill l n)[j * 3 + 2], ?_, ?_, ?_, frozen_of h _, frozen_of h _, frozen_of h _⟩
  · rw [cell_of h]; simp
  · rw [cell_of h]; simp
  · rw [cell_of h]; simp
theorem cfill_set (l : List Cs) (n : Nat) (x : Cs) (h : l.length < n) : (((cfill l n).setIfInBounds (l.length * 3) (.bool x.send)).setIfInBounds (l.length * 3 + 1) (.int .i64 x.ch)).setIfInBounds (l.length * 3 + 2) (.int .i64 x.val) = cfill (l ++ [x]) n := by
  apply Array.toList_inj.1
  obtain ⟨q, hq⟩ : ∃ q, n - l.length = q + 1 := ⟨n - l.length - 1, by omega⟩
  have e : n - (l ++ [x]).length = q := by simp; omega
  simp only [cfill, hq, e, List.replicate_succ, Array.toList_setIfInBounds, List.flatten_cons, List.flatMap_append]
  rw [← flat_cc_len l]
  generalize l.flatMap cc = A
  generalize (List.replicate q (cc ⟨false, 0, 0⟩)).flatten = B
  simp [cc]
theorem cfill_step (s : ByteArray) (f : Bool) (j m : Nat) (h : j < m) : (((cfill (rcs s f j).1 m).setIfInBounds (j * 3) (.bool (rc (rcs s f j).2.1 (rcs s f j).2.2).1.send)).setIfInBounds (j * 3 + 1) (.int .i64 (rc (rcs s f j).2.1 (rcs s f j).2.2).1.ch)).setIfInBounds (j * 3 + 2) (.int .i64 (rc (rcs s f j).2.1 (rcs s f j).2.2).1.val) = cfill (rcs s f (j + 1)).1 m := by
  have := cfill_set (rcs s f j).1 m (rc (rcs s f j).2.1 (rcs s f j).2.2).1 (by rw [rcs_len]; exact h)
  rw [rcs_len] at this
  exact this
theorem rnum_pos (s : ByteArray) (f : Bool) : 0 ≤ (rnum s f).1 := by
  cases f
  · cases h : tk (nbs s) with
    | none => rw [rnum_n h]; exact Int.le_refl _
    | some p => obtain ⟨n, k⟩ := p; rw [rnum_s h]; exact Int.natCast_nonneg _
  · rw [rnum_t]; exact Int.le_refl _
theorem rup_bd (m : Int) (hm : 0 ≤ m) (s : ByteArray) (f : Bool) : 0 ≤ (rup m s f).1 ∧ (rup m s f).1 ≤ m := by
  have h := rnum_pos s f
  unfold rup
  cases hd : decide (m < (rnum s f).1)
  · simp at hd
    exact ⟨h, hd⟩
  · exact ⟨Int.le_refl _, hm⟩

end De
end Go.Proofs.YtblfimobiibmjaaGreat
/- Package deed: Decode, over this seat's program. -/
namespace Go.Proofs.YtblfimobiibmjaaGreat
open Go.ChangeShapes Go.WideShapes Go.ChangeAt Go.RowKit
namespace De
open Ba Re

/-- what Decode answers: 0 and the operation and what is behind; or an error -/
def dec (s : ByteArray) (p : Int) : Int := bif okP p then (bif (rop s false).2.2 then 4 else bif chk (rop s false).1 p == 0 then 0 else 4) else 1

theorem results_row3 {fn : Func} {p u v : Tmp} {ty : TypeId} (h : fn.results = #[.cell p ty, .tmp u, .tmp v]) (tmps : Array Value) (w : World) (g : Nat) (cs : Array Value) (x y : Value)
    (hp : tmps.getD p undef = .pointer (some ⟨g, 0, none⟩)) (hx : tmps.getD u undef = x) (hy : tmps.getD v undef = y) (hl : (loadVar ty ⟨g, 0, none⟩).run Tryz.prog w = .ok (.agg cs) w) :
    (results fn tmps).run Tryz.prog w = .ok (.tuple #[.agg cs, x, y]) w := by
  subst hx hy
  have hp' : tmps[p]?.getD undef = .pointer (some ⟨g, 0, none⟩) := by simpa using hp
  simp [results, h, hp', asAddr, hl]

theorem CAt.five {w : World} {oa : Option Addr} {l : List Cs} {Z : Nat} {x y z : Int} {t : Bool} {ty : TypeId} (h : CAt w oa l) (hZ : w.heap[Z]? = some (.cells #[.int .i64 x, .int .i64 y, .int .i64 z, .slice none 0 0, .bool t] ty (0, 0))) (u0 u1 u2 u3 u4 : Value) : CAt (((((w.setCell ⟨Z, 0, none⟩ u0).setCell ⟨Z, 1, none⟩ u1).setCell ⟨Z, 2, none⟩ u2).setCell ⟨Z, 3, none⟩ u3).setCell ⟨Z, 4, none⟩ u4) oa l := by
  intro k c hk
  obtain ⟨b, off, he, h1, h2, h3⟩ := h k c hk
  have hb : b ≠ Z := by
    intro e
    subst e
    rw [cell_of hZ] at h1 h2
    generalize off + k * 3 = i at h1 h2
    match i with
    | 0 => simp at h1
    | 1 => simp at h1
    | 2 => simp at h1
    | 3 => simp at h1
    | 4 => simp at h2
    | i + 5 => simp at h1
  have e : ∀ i, (((((w.setCell ⟨Z, 0, none⟩ u0).setCell ⟨Z, 1, none⟩ u1).setCell ⟨Z, 2, none⟩ u2).setCell ⟨Z, 3, none⟩ u3).setCell ⟨Z, 4, none⟩ u4).cell? ⟨b, i, none⟩ = w.cell? ⟨b, i, none⟩ := fun i => by
    simp only [World.cell?]
    rw [five_other Z b hb]
  exact ⟨b, off, he, (e _).trans h1, (e _).trans h2, (e _).trans h3⟩
theorem rop_len (s : ByteArray) (f : Bool) : (rop s f).1.cases.length ≤ 4 := by
  unfold rop
  cases h : (rnum s f).1 == 6
  · simp [h]
  · have := rup_bd 4 (by decide) (rup 1 (rf (rnum s f).2.1 (rnum s f).2.2 (nf (rnum s f).1)).2.2.1 (rf (rnum s f).2.1 (rnum s f).2.2 (nf (rnum s f).1)).2.2.2).2.1 (rup 1 (rf (rnum s f).2.1 (rnum s f).2.2 (nf (rnum s f).1)).2.2.1 (rf (rnum s f).2.1 (rnum s f).2.2 (nf (rnum s f).1)).2.2.2).2.2
    simp only [h, cond_true, rcs_len]
    omega

end De
end Go.Proofs.YtblfimobiibmjaaGreat
/- The laws' own Op, Releases and send(), over this seat's program. -/
namespace Go.Proofs.YtblfimobiibmjaaGreat
open Go.ChangeShapes Go.WideShapes Go.ChangeAt Go.RowKit
namespace De
open Ba Re

theorem hp60 : Tryz.prog.stoodInHeld 166 = false := by kernel_rfl
theorem hm60 : Tryz.prog.eqGuardType Tryz.prog.depth 166 = false := by kernel_rfl
theorem part0 (b : Bool) (c v : Int) (w : World) : (part 4 #[.bool b, .int .i64 c, .int .i64 v] 0).run Tryz.prog w = .ok (.bool b) w := by kernel_rfl
theorem part1 (b : Bool) (c v : Int) (w : World) : (part 3 #[.bool b, .int .i64 c, .int .i64 v] 1).run Tryz.prog w = .ok (.int .i64 c) w := by kernel_rfl
theorem part2 (b : Bool) (c v : Int) (w : World) : (part 3 #[.bool b, .int .i64 c, .int .i64 v] 2).run Tryz.prog w = .ok (.int .i64 v) w := by kernel_rfl
theorem neq_case (x y : Cs) (w : World) : (binOp .neq 166 (.agg #[.bool x.send, .int .i64 x.ch, .int .i64 x.val]) (.agg #[.bool y.send, .int .i64 y.ch, .int .i64 y.val])).run Tryz.prog w = .ok (.bool (!(x.send == y.send && (x.ch == y.ch && x.val == y.val)))) w := by
  have hu := Tryz.underlying166
  have hf : Tryz.prog.fieldsOf 166 = #[⟨ "Send", 4, 0, false, "", "", 0⟩, ⟨ "Chan", 3, 1, false, "", "", 8⟩, ⟨ "Value", 3, 2, false, "", "", 16⟩] := by unfold Program.fieldsOf; rw [hu]
  have ht : Tryz.prog.underlying 166 = some (.struct (Tryz.prog.fieldsOf 166)) := by rw [hf]; exact hu
  rw [run_neq_struct, run_equalIn_agg w 9999 166 _ _ ht hp60, hf]
  have e0 := fun w => run_equalIn_bool' (P := Tryz.prog) w 9998 4 x.send y.send Tryz.underlying4
  have e1 := fun w => run_equalIn_int (P := Tryz.prog) w 9998 3 .i64 .i64 x.ch y.ch Tryz.underlying3
  have e2 := fun w => run_equalIn_int (P := Tryz.prog) w 9998 3 .i64 .i64 x.val y.val Tryz.underlying3
  cases h1 : x.send == y.send
  · simp [Op.eqFields, e0, h1, part0]
  · cases h2 : x.ch == y.ch
    · simp [Op.eqFields, e0, e1, h1, h2, part0, part1]
    · simp [Op.eqFields, e0, e1, e2, h1, h2, part0, part1, part2]
      by_cases h3 : x.val = y.val <;> simp [h3]
theorem cs_eq (x y : Cs) : ((!(x.send == y.send && (x.ch == y.ch && x.val == y.val))) = false) ↔ x = y := by
  obtain ⟨s1, c1, v1⟩ := x
  obtain ⟨s2, c2, v2⟩ := y
  simp

end De
end Go.Proofs.YtblfimobiibmjaaGreat
/- Package deed: Releases; the laws' own send(), over this seat's program. -/
namespace Go.Proofs.YtblfimobiibmjaaGreat
open Go.ChangeShapes Go.WideShapes Go.ChangeAt Go.RowKit
namespace De
open Ba Re

def o7 : OpD := ⟨3, 2, 7, [], false⟩
def s7 : ByteArray := ⟨#[3, 2, 7, 97]⟩
theorem nx {s : ByteArray} {L : List Nat} {n k : Nat} (h : nbs s = L) (ht : tk L = some (n, k)) : rnum s false = ((n : Int), s.extract k s.size, false) := rnum_s (by rw [h]; exact ht)
theorem nsfx {s : ByteArray} {L : List Nat} (h : nbs s = L) (k : Nat) : nbs (s.extract k s.size) = L.drop k := by
  rw [nbs_extract, ← nbs_length, List.take_length, h]
theorem rop7 : ∃ r, rop s7 false = (o7, r, false) ∧ r.toList = [97] := by
  have h0 : nbs s7 = [3, 2, 7, 97] := by decide
  have r0 := nx h0 (n := 3) (k := 1) (by decide)
  have h1 := nsfx h0 1
  have r1 := nx h1 (n := 2) (k := 1) (by decide)
  have h2 := nsfx h1 1
  have r2 := nx h2 (n := 7) (k := 1) (by decide)
  have h3 := nsfx h2 1
  generalize s7.extract 1 s7.size = S1 at *
  generalize S1.extract 1 S1.size = S2 at *
  generalize S2.extract 1 S2.size = S3 at *
  refine ⟨S3, ?_, ?_⟩
  · unfold rop
    rw [r0]
    simp only [show nf ((3 : Nat) : Int) = 2 from rfl, rf, r1, r2]
    rfl
  · have e : S3 = bs [97] := nbs_inj (by rw [h3, nbs_bs _ (by decide)]; decide)
    rw [e, toList_is]
    decide

end De
end Go.Proofs.YtblfimobiibmjaaGreat
/- An operation among a law's arguments, opened. -/
namespace Go.Proofs.YtblfimobiibmjaaGreat
open Go.ChangeShapes Go.WideShapes Go.ChangeAt Go.RowKit
namespace De
open Ba Re

theorem cells_case : Tryz.prog.cellsOf 166 = 3 := by kernel_rfl
theorem cells_op : Tryz.prog.cellsOf 64 = 5 := by kernel_rfl
theorem cells_int : Tryz.prog.cellsOf 3 = 1 := by kernel_rfl
theorem cells_bool : Tryz.prog.cellsOf 4 = 1 := by kernel_rfl
theorem cells_cases : Tryz.prog.cellsOf 62 = 1 := by kernel_rfl

theorem fields3 : ∃ fs : Array Field, Tryz.prog.underlying 166 = some (.struct fs) ∧ fs.size = 3 ∧ (∃ f, fs[0]? = some f ∧ f.offset = 0 ∧ f.type = 4) ∧ (∃ f, fs[1]? = some f ∧ f.offset = 1 ∧ f.type = 3) ∧ (∃ f, fs[2]? = some f ∧ f.offset = 2 ∧ f.type = 3) :=
  ⟨_, Tryz.underlying166, rfl, ⟨_, rfl, rfl, rfl⟩, ⟨_, rfl, rfl, rfl⟩, ⟨_, rfl, rfl, rfl⟩⟩
theorem fields5 : ∃ fs : Array Field, Tryz.prog.underlying 64 = some (.struct fs) ∧ fs.size = 5 ∧ (∃ f, fs[0]? = some f ∧ f.offset = 0 ∧ f.type = 3) ∧ (∃ f, fs[1]? = some f ∧ f.offset = 1 ∧ f.type = 3) ∧ (∃ f, fs[2]? = some f ∧ f.offset = 2 ∧ f.type = 3) ∧ (∃ f, fs[3]? = some f ∧ f.offset = 3 ∧ f.type = 62) ∧ (∃ f, fs[4]? = some f ∧ f.offset = 4 ∧ f.type = 4) :=
  ⟨_, Tryz.underlying64, rfl, ⟨_, rfl, rfl, rfl⟩, ⟨_, rfl, rfl, rfl⟩, ⟨_, rfl, rfl, rfl⟩, ⟨_, rfl, rfl, rfl⟩, ⟨_, rfl, rfl, rfl⟩⟩
theorem one_of {cs : List Value} {j : Nat} {v : Value} (h : (cs.drop j).take 1 = [v]) : cs[j]? = some v := by
  have : ((cs.drop j).take 1)[0]? = some v := by rw [h]; rfl
  simpa using this

section
variable {H : Type} {enc : TypeId × Value → H} {w : World}
theorem case_open {n : Nat} {cs : List Value} {x : DataW H × List MemPlace} (h : DataW.trod enc Tryz.prog w 0 (fun _ => true) true n 166 cs = some x) : ∃ c : Cs, cs[0]? = some (.bool c.send) ∧ cs[1]? = some (.int .i64 c.ch) ∧ cs[2]? = some (.int .i64 c.val) := by
  obtain ⟨fs, hu, hsz, field3_0, field3_1, field3_2⟩ := fields3
  obtain ⟨xs, k, _, _, _, hxl, hff⟩ := DataW.trod_struct hu h
  rw [hsz] at hxl
  obtain ⟨f0, g0, o0, t0⟩ := field3_0
  have h0 := hff 0 f0 g0
  rw [o0, t0, cells_bool] at h0
  obtain ⟨f1, g1, o1, t1⟩ := field3_1
  have h1 := hff 1 f1 g1
  rw [o1, t1, cells_int] at h1
  obtain ⟨f2, g2, o2, t2⟩ := field3_2
  have h2 := hff 2 f2 g2
  rw [o2, t2, cells_int] at h2
  rw [List.getElem?_eq_getElem (by omega)] at h0 h1 h2
  obtain ⟨b, hb, _⟩ := DataW.trod_bool Tryz.underlying4 h0
  obtain ⟨c, hc, _⟩ := DataW.trod_int Tryz.underlying3 h1
  obtain ⟨v, hv, _⟩ := DataW.trod_int Tryz.underlying3 h2
  exact ⟨⟨b, c, v⟩, one_of hb, one_of hc, one_of hv⟩

theorem cases_open {n : Nat} {v : Value} {x : DataW H × List MemPlace} (h : DataW.trod enc Tryz.prog w 0 (fun _ => true) true n 62 [v] = some x) : ∃ (l : List Cs) (oa : Option Addr) (c : Nat), v = .slice oa l.length c ∧ CAt w oa l ∧ l.length ≤ maxLen := by
  rcases Go.Deep.open_slice Tryz.underlying62 h with ⟨hcs, _⟩ | ⟨a, len, cap, m, n', D, Pl, hcs, _, hl, hm, hmm, _, hel⟩
  · simp at hcs
    subst hcs
    exact ⟨[], none, 0, rfl, CAt.nil _ _, Nat.zero_le _⟩
  · simp at hcs
    subst hcs
    have hmc : m = cap := by simpa using hmm
    subst hmc
    have key : ∀ i, i < len → ∃ c : Cs, w.cell? ((a.add (i * 3)).add 0) = some (.bool c.send) ∧ w.cell? ((a.add (i * 3)).add 1) = some (.int .i64 c.ch) ∧ w.cell? ((a.add (i * 3)).add 2) = some (.int .i64 c.val) := by
      intro i hi
      obtain ⟨cs', h1, h2⟩ := hel i (by omega)
      rw [cells_case] at h1
      obtain ⟨_, _, hcell⟩ := World.cells?_some h1
      obtain ⟨c, q0, q1, q2⟩ := case_open h2
      exact ⟨c, (hcell 0 (by decide)).trans q0, (hcell 1 (by decide)).trans q1, (hcell 2 (by decide)).trans q2⟩
    have fam : ∃ f : Nat → Cs, ∀ i, i < len → w.cell? ((a.add (i * 3)).add 0) = some (.bool (f i).send) ∧ w.cell? ((a.add (i * 3)).add 1) = some (.int .i64 (f i).ch) ∧ w.cell? ((a.add (i * 3)).add 2) = some (.int .i64 (f i).val) := by
      refine ⟨fun i => if hi : i < len then Classical.choose (key i hi) else ⟨false, 0, 0⟩, fun i hi => ?_⟩
      simp only [dif_pos hi]
      exact Classical.choose_spec (key i hi)
    obtain ⟨f, hf⟩ := fam
    have hlen : ((List.range len).map f).length = len := by simp
    refine ⟨(List.range len).map f, some a, m, by rw [hlen], ?_, by rw [hlen]; omega⟩
    intro k c hk
    have hk2 : k < len := by
      have := (List.getElem?_eq_some_iff.1 hk).1
      simpa using this
    have hc : c = f k := by
      simp [hk2] at hk
      exact hk.symm
    subst hc
    have hspot : a.spot = none := by
      have := World.cell?_spot (hf 0 (by omega)).1
      simpa [Addr.add] using this
    obtain ⟨b, off, spot⟩ := a
    simp at hspot
    subst hspot
    obtain ⟨q0, q1, q2⟩ := hf k hk2
    rw [Addr.add_lit, Addr.add_lit] at q0 q1 q2
    exact ⟨b, off, rfl, q0, q1, q2⟩

set_option maxRecDepth 100000 in
theorem op_open {n : Nat} {v : Value} {x : DataW H × List MemPlace} (h : DataW.trod enc Tryz.prog w 0 (fun _ => true) true n 64 v.cells.toList = some x) : ∃ (o : OpD) (oa : Option Addr) (c : Nat), v = .agg #[.int .i64 o.kind, .int .i64 o.a, .int .i64 o.b, .slice oa o.cases.length c, .bool o.def_] ∧ CAt w oa o.cases ∧ o.cases.length ≤ maxLen := by
  obtain ⟨fs, hu, hsz, field5_0, field5_1, field5_2, field5_3, field5_4⟩ := fields5
  obtain ⟨xs, k, _, _, hcl, hxl, hff⟩ := DataW.trod_struct hu h
  rw [hsz] at hxl
  rw [cells_op] at hcl
  obtain ⟨f0, g0, o0, t0⟩ := field5_0
  have h0 := hff 0 f0 g0
  rw [o0, t0, cells_int] at h0
  obtain ⟨f1, g1, o1, t1⟩ := field5_1
  have h1 := hff 1 f1 g1
  rw [o1, t1, cells_int] at h1
  obtain ⟨f2, g2, o2, t2⟩ := field5_2
  have h2 := hff 2 f2 g2
  rw [o2, t2, cells_int] at h2
  obtain ⟨f3, g3, o3, t3⟩ := field5_3
  have h3 := hff 3 f3 g3
  rw [o3, t3, cells_cases] at h3
  obtain ⟨f4, g4, o4, t4⟩ := field5_4
  have h4 := hff 4 f4 g4
  rw [o4, t4, cells_bool] at h4
  rw [List.getElem?_eq_getElem (by omega)] at h0 h1 h2 h3 h4
  obtain ⟨i0, e0, _⟩ := DataW.trod_int Tryz.underlying3 h0
  obtain ⟨i1, e1, _⟩ := DataW.trod_int Tryz.underlying3 h1
  obtain ⟨i2, e2, _⟩ := DataW.trod_int Tryz.underlying3 h2
  obtain ⟨i4, e4, _⟩ := DataW.trod_bool Tryz.underlying4 h4
  have hz : ∃ z, (v.cells.toList.drop 3).take 1 = [z] := by
    have hl : ((v.cells.toList.drop 3).take 1).length = 1 := by simp at hcl ⊢; omega
    match hq : (v.cells.toList.drop 3).take 1, hl with
    | [z], _ => exact ⟨z, rfl⟩
  obtain ⟨z, e3⟩ := hz
  rw [e3] at h3
  obtain ⟨l, oa, c, rfl, hA, hm⟩ := cases_open h3
  refine ⟨⟨i0, i1, i2, l, i4⟩, oa, c, ?_, hA, hm⟩
  have hc : v.cells = #[.int .i64 i0, .int .i64 i1, .int .i64 i2, .slice oa l.length c, .bool i4] := by
    apply Array.toList_inj.1
    have q0 := one_of e0
    have q1 := one_of e1
    have q2 := one_of e2
    have q3 := one_of e3
    have q4 := one_of e4
    generalize v.cells.toList = L at *
    match L, hcl with
    | [y0, y1, y2, y3, y4], _ =>
      simp at q0 q1 q2 q3 q4
      simp [q0, q1, q2, q3, q4]
  cases v with
  | agg cs => rw [← hc]; rfl
  | _ => have := congrArg Array.size hc; simp [Value.cells] at this
end
end De
end Go.Proofs.YtblfimobiibmjaaGreat
/- There and back: operations and their bytes, plain. -/
namespace Go.Proofs.YtblfimobiibmjaaGreat
open Go.ChangeShapes Go.WideShapes Go.ChangeAt Go.RowKit
namespace De
open Ba Re

theorem foldl_dg (k n : Nat) : ∀ a, (dg k n).foldl (fun a b => 256 * a + b) a = a * 256 ^ k + n % 256 ^ k := by
  induction k with
  | zero => intro a; simp [dg, Nat.mod_one]
  | succ k ih =>
    intro a
    rw [show dg (k + 1) n = n / 256 ^ k % 256 :: dg k n from rfl, List.foldl_cons, ih, Nat.mod_pow_succ, Nat.pow_succ, Nat.add_mul]
    have e1 : 256 * a * 256 ^ k = a * (256 ^ k * 256) := by rw [Nat.mul_comm 256 a, Nat.mul_assoc, Nat.mul_comm 256]
    have e2 : n / 256 ^ k % 256 * 256 ^ k = 256 ^ k * (n / 256 ^ k % 256) := Nat.mul_comm _ _
    rw [e1, e2]
    omega
theorem vl_dg (k n : Nat) (h : n < 256 ^ k) : vl (dg k n) = n := by
  have := foldl_dg k n 0
  rw [Nat.zero_mul, Nat.zero_add, Nat.mod_eq_of_lt h] at this
  exact this
set_option maxRecDepth 100000 in
theorem nb_holds (n : Nat) (h : n ≤ 1099511627776) : n < 256 ^ nb n := by
  unfold nb
  by_cases h1 : n < 256
  · rw [if_pos h1]; exact h1
  rw [if_neg h1]
  by_cases h2 : n < 65536
  · rw [if_pos h2]; exact h2
  rw [if_neg h2]
  by_cases h3 : n < 16777216
  · rw [if_pos h3]; exact h3
  rw [if_neg h3]
  by_cases h4 : n < 4294967296
  · rw [if_pos h4]; exact h4
  rw [if_neg h4]
  by_cases h5 : n < 1099511627776
  · rw [if_pos h5]; exact h5
  rw [if_neg h5]
  have : 256 ^ 6 = 281474976710656 := rfl
  omega
theorem tk_spl (n : Nat) (R : List Nat) (h : n ≤ 1099511627776) : tk (spl n ++ R) = some (n, (spl n).length) := by
  by_cases h1 : n < 240
  · rw [spl_lo n h1]
    simp [tk, h1]
  · have hz := szn_lo n h
    rw [spl_hi n (by omega)] at hz ⊢
    rw [List.length_cons, dg_length] at hz
    rw [List.length_cons, dg_length, List.cons_append]
    have h2 := nb_le n
    have h3 := nb_pos n
    have e : 240 + nb n - 240 = nb n := by omega
    have et : (dg (nb n) n ++ R).take (nb n) = dg (nb n) n := by
      rw [List.take_append_of_le_length (by rw [dg_length]; exact Nat.le_refl _), List.take_of_length_le (by rw [dg_length]; exact Nat.le_refl _)]
    have ev := vl_dg (nb n) n (nb_holds n h)
    simp only [tk]
    rw [if_neg (by omega), e, et, ev, if_pos ⟨h3, h2, by rw [List.length_append, dg_length]; omega, by omega⟩, Nat.add_comm]
theorem tk_put {L : List Nat} {n k : Nat} (hL : ∀ b ∈ L, b < 256) (h : tk L = some (n, k)) : spl n ++ L.drop k = L := by
  cases L with
  | nil => simp [tk] at h
  | cons b t =>
    simp only [tk] at h
    by_cases h1 : b < 240
    · rw [if_pos h1] at h
      simp at h
      obtain ⟨rfl, rfl⟩ := h
      rw [spl_lo b h1]
      rfl
    · rw [if_neg h1] at h
      split at h
      · rename_i q
        simp only [Option.some.injEq, Prod.mk.injEq] at h
        obtain ⟨rfl, rfl⟩ := h
        have := ((fit_iff (t.take (b - 240)) (b - 240) q.1 (by simp; omega) (fun x hx => hL x (List.mem_cons_of_mem _ (List.mem_of_mem_take hx)))).1 q.2.2.2).2
        rw [this, show 240 + (b - 240) = b by omega, Nat.add_comm 1]
        simp
      · simp at h
theorem tk_bound {L : List Nat} {n k : Nat} (h : tk L = some (n, k)) : n ≤ 1099511627776 := by
  cases L with
  | nil => simp [tk] at h
  | cons b t =>
    simp only [tk] at h
    split at h
    · simp at h
      obtain ⟨rfl, _⟩ := h
      omega
    · split at h
      · rename_i q
        simp only [Option.some.injEq, Prod.mk.injEq] at h
        obtain ⟨rfl, _⟩ := h
        have := q.2.2.2
        by_cases e : vl (t.take (b - 240)) ≤ 1099511627776
        · exact e
        · rw [szn_hi _ e] at this; omega
      · simp at h

theorem pls_cons (x : Int) (l : List Int) : pls (x :: l) = spl x.toNat ++ pls l := by simp [pls]
theorem pls_append (a b : List Int) : pls (a ++ b) = pls a ++ pls b := by simp [pls]
theorem pls_nil : pls [] = [] := rfl

/-! there -/
theorem rn {s : ByteArray} {n : Int} {R : List Nat} (hn : okR n = true) (h : nbs s = spl n.toNat ++ R) : ∃ r, rnum s false = (n, r, false) ∧ nbs r = R := by
  obtain ⟨h0, h1⟩ := (okR_iff n).1 hn
  have ht := tk_spl n.toNat R (by omega)
  rw [← h] at ht
  refine ⟨_, ?_, nsfx h _ |>.trans (by rw [List.drop_left])⟩
  rw [rnum_s ht]
  simp only [Prod.mk.injEq, and_true]
  omega
theorem ru {s : ByteArray} {n m : Int} {R : List Nat} (hn : 0 ≤ n) (hm : n ≤ m) (hb : n ≤ 1000) (h : nbs s = spl n.toNat ++ R) : ∃ r, rup m s false = (n, r, false) ∧ nbs r = R := by
  obtain ⟨r, h1, h2⟩ := rn (by rw [okR_iff]; omega) h
  refine ⟨r, ?_, h2⟩
  have hd : decide (m < n) = false := by simp; omega
  simp only [rup, h1, hd, cond_false]
theorem bt_one (b : Bool) : (bt b == 1) = b := by cases b <;> decide
theorem rcs_enc (l : List Cs) (hl : ∀ x ∈ l, okC x = true) (s : ByteArray) (R : List Nat) (h : nbs s = pls (l.flatMap cn) ++ R) : ∀ j, j ≤ l.length → ∃ r, rcs s false j = (l.take j, r, false) ∧ nbs r = pls ((l.drop j).flatMap cn) ++ R := by
  intro j
  induction j with
  | zero => intro _; exact ⟨s, rfl, h⟩
  | succ j ih =>
    intro hj
    obtain ⟨r, h1, h2⟩ := ih (by omega)
    have hlt : j < l.length := by omega
    rw [List.drop_eq_getElem_cons hlt, List.flatMap_cons, pls_append, List.append_assoc] at h2
    have hok := okC_bd (hl l[j] (List.getElem_mem hlt))
    have hbt := bt_bd l[j].send
    have e : pls (cn l[j]) = spl (bt l[j].send).toNat ++ (spl (l[j].ch).toNat ++ spl (l[j].val).toNat) := by simp [pls, cn]
    rw [e, List.append_assoc, List.append_assoc] at h2
    obtain ⟨r1, q1, p1⟩ := ru (m := 1) hbt.1 hbt.2 (by omega) h2
    obtain ⟨r2, q2, p2⟩ := rn (by rw [okR_iff]; omega) p1
    obtain ⟨r3, q3, p3⟩ := rn (by rw [okR_iff]; omega) p2
    refine ⟨r3, ?_, p3⟩
    rw [rcs, h1]
    simp only [rc, q1, q2, q3, bt_one]
    rw [List.take_add_one, List.getElem?_eq_getElem hlt]
    rfl
theorem rop_enc {o : OpD} {p : Int} (hc : chk o p = 0) (s : ByteArray) (R : List Nat) (h : nbs s = pls (nums o) ++ R) : ∃ r, rop s false = (o, r, false) ∧ nbs r = R := by
  obtain ⟨hp, hk, hl, ha, hb, hd, hcs⟩ := chk_zero hc
  have hA := mA_le o.kind p hp.2
  have hB := mB_le o.kind
  obtain ⟨k, a, b, cs, d⟩ := o
  simp only at hk hl ha hb hd hcs hA hB
  unfold nums at h
  simp only at h
  rw [List.cons_append, pls_cons, List.append_assoc] at h
  obtain ⟨s1, q1, p1⟩ := rn (by rw [okR_iff]; omega) h
  unfold rop
  rw [q1]
  simp only
  rcases kind_cases hk.1 hk.2 with rfl | rfl | rfl | rfl | rfl | rfl | rfl | rfl | rfl
  case inr.inr.inr.inr.inr.inl =>
    have ea : a = 0 := by simp [mA] at ha; omega
    have eb : b = 0 := by simp [mB] at hb; omega
    subst ea eb
    have e : pls ([(0 : Int), 0].take (nf 6) ++ (bif (6 : Int) == 6 then bt d :: (cs.length : Int) :: cs.flatMap cn else [])) = spl (bt d).toNat ++ (spl (cs.length : Int).toNat ++ pls (cs.flatMap cn)) := by simp [nf, pls]
    rw [e, List.append_assoc, List.append_assoc] at p1
    have hbt := bt_bd d
    obtain ⟨s2, q2, p2⟩ := ru (m := 1) hbt.1 hbt.2 (by omega) p1
    obtain ⟨s3, q3, p3⟩ := ru (m := 4) (by omega) (by omega) (by omega) p2
    obtain ⟨s4, q4, p4⟩ := rcs_enc cs hcs s3 R p3 cs.length (Nat.le_refl _)
    refine ⟨s4, ?_, by rw [p4, List.drop_length]; rfl⟩
    simp only [show nf 6 = 0 from rfl, rf, q2, q3, Int.toNat_natCast, q4, List.take_length, bt_one]
    rfl
  case inl =>
    obtain ⟨rfl, rfl⟩ : d = false ∧ cs = [] := by
      rcases hd with hd | hd
      · omega
      · exact hd
    have eb : b = 0 := by simp [mB] at hb; omega
    subst eb
    have e : pls ([(a : Int), 0].take (nf 1) ++ (bif (1 : Int) == 6 then bt false :: (([] : List Cs).length : Int) :: ([] : List Cs).flatMap cn else [])) = spl a.toNat := by simp [nf, pls]
    rw [e] at p1
    obtain ⟨s2, q2, p2⟩ := rn (by rw [okR_iff]; omega) p1
    refine ⟨s2, ?_, p2⟩
    simp only [show nf 1 = 1 from rfl, rf, q2]
    rfl
  case inr.inl =>
    obtain ⟨rfl, rfl⟩ : d = false ∧ cs = [] := by
      rcases hd with hd | hd
      · omega
      · exact hd
    have e : pls ([(a : Int), b].take (nf 2) ++ (bif (2 : Int) == 6 then bt false :: (([] : List Cs).length : Int) :: ([] : List Cs).flatMap cn else [])) = spl a.toNat ++ spl b.toNat := by simp [nf, pls]
    rw [e, List.append_assoc] at p1
    obtain ⟨s2, q2, p2⟩ := rn (by rw [okR_iff]; omega) p1
    obtain ⟨s3, q3, p3⟩ := rn (by rw [okR_iff]; omega) p2
    refine ⟨s3, ?_, p3⟩
    simp only [show nf 2 = 2 from rfl, rf, q2, q3]
    rfl
  case inr.inr.inl =>
    obtain ⟨rfl, rfl⟩ : d = false ∧ cs = [] := by
      rcases hd with hd | hd
      · omega
      · exact hd
    have e : pls ([(a : Int), b].take (nf 3) ++ (bif (3 : Int) == 6 then bt false :: (([] : List Cs).length : Int) :: ([] : List Cs).flatMap cn else [])) = spl a.toNat ++ spl b.toNat := by simp [nf, pls]
    rw [e, List.append_assoc] at p1
    obtain ⟨s2, q2, p2⟩ := rn (by rw [okR_iff]; omega) p1
    obtain ⟨s3, q3, p3⟩ := rn (by rw [okR_iff]; omega) p2
    refine ⟨s3, ?_, p3⟩
    simp only [show nf 3 = 2 from rfl, rf, q2, q3]
    rfl
  case inr.inr.inr.inl =>
    obtain ⟨rfl, rfl⟩ : d = false ∧ cs = [] := by
      rcases hd with hd | hd
      · omega
      · exact hd
    have eb : b = 0 := by simp [mB] at hb; omega
    subst eb
    have e : pls ([(a : Int), 0].take (nf 4) ++ (bif (4 : Int) == 6 then bt false :: (([] : List Cs).length : Int) :: ([] : List Cs).flatMap cn else [])) = spl a.toNat := by simp [nf, pls]
    rw [e] at p1
    obtain ⟨s2, q2, p2⟩ := rn (by rw [okR_iff]; omega) p1
    refine ⟨s2, ?_, p2⟩
    simp only [show nf 4 = 1 from rfl, rf, q2]
    rfl
  case inr.inr.inr.inr.inl =>
    obtain ⟨rfl, rfl⟩ : d = false ∧ cs = [] := by
      rcases hd with hd | hd
      · omega
      · exact hd
    have eb : b = 0 := by simp [mB] at hb; omega
    subst eb
    have e : pls ([(a : Int), 0].take (nf 5) ++ (bif (5 : Int) == 6 then bt false :: (([] : List Cs).length : Int) :: ([] : List Cs).flatMap cn else [])) = spl a.toNat := by simp [nf, pls]
    rw [e] at p1
    obtain ⟨s2, q2, p2⟩ := rn (by rw [okR_iff]; omega) p1
    refine ⟨s2, ?_, p2⟩
    simp only [show nf 5 = 1 from rfl, rf, q2]
    rfl
  case inr.inr.inr.inr.inr.inr.inl =>
    obtain ⟨rfl, rfl⟩ : d = false ∧ cs = [] := by
      rcases hd with hd | hd
      · omega
      · exact hd
    have eb : b = 0 := by simp [mB] at hb; omega
    subst eb
    have e : pls ([(a : Int), 0].take (nf 7) ++ (bif (7 : Int) == 6 then bt false :: (([] : List Cs).length : Int) :: ([] : List Cs).flatMap cn else [])) = spl a.toNat := by simp [nf, pls]
    rw [e] at p1
    obtain ⟨s2, q2, p2⟩ := rn (by rw [okR_iff]; omega) p1
    refine ⟨s2, ?_, p2⟩
    simp only [show nf 7 = 1 from rfl, rf, q2]
    rfl
  case inr.inr.inr.inr.inr.inr.inr.inl =>
    obtain ⟨rfl, rfl⟩ : d = false ∧ cs = [] := by
      rcases hd with hd | hd
      · omega
      · exact hd
    have eb : b = 0 := by simp [mB] at hb; omega
    subst eb
    have e : pls ([(a : Int), 0].take (nf 8) ++ (bif (8 : Int) == 6 then bt false :: (([] : List Cs).length : Int) :: ([] : List Cs).flatMap cn else [])) = spl a.toNat := by simp [nf, pls]
    rw [e] at p1
    obtain ⟨s2, q2, p2⟩ := rn (by rw [okR_iff]; omega) p1
    refine ⟨s2, ?_, p2⟩
    simp only [show nf 8 = 1 from rfl, rf, q2]
    rfl
  case inr.inr.inr.inr.inr.inr.inr.inr =>
    obtain ⟨rfl, rfl⟩ : d = false ∧ cs = [] := by
      rcases hd with hd | hd
      · omega
      · exact hd
    have eb : b = 0 := by simp [mB] at hb; omega
    subst eb
    have ea : a = 0 := by simp [mA] at ha; omega
    subst ea
    have e : pls ([(0 : Int), 0].take (nf 9) ++ (bif (9 : Int) == 6 then bt false :: (([] : List Cs).length : Int) :: ([] : List Cs).flatMap cn else [])) = [] := by simp [nf, pls]
    rw [e] at p1
    exact ⟨s1, rfl, p1⟩
end De
end Go.Proofs.YtblfimobiibmjaaGreat
/- What is decoded was encoded so, plain; Decode in one contract. -/
namespace Go.Proofs.YtblfimobiibmjaaGreat
open Go.ChangeShapes Go.WideShapes Go.ChangeAt Go.RowKit
namespace De
open Ba Re

theorem rn_inv {s r : ByteArray} {f : Bool} {n : Int} (h : rnum s f = (n, r, false)) : f = false ∧ 0 ≤ n ∧ nbs s = spl n.toNat ++ nbs r := by
  cases f
  · cases ht : tk (nbs s) with
    | none => rw [rnum_n ht] at h; simp at h
    | some q =>
      obtain ⟨m, k⟩ := q
      rw [rnum_s ht] at h
      simp only [Prod.mk.injEq, and_true] at h
      obtain ⟨rfl, rfl⟩ := h
      refine ⟨rfl, Int.natCast_nonneg _, ?_⟩
      rw [nsfx rfl, Int.toNat_natCast]
      exact (tk_put (nbs_lt s) ht).symm
  · rw [rnum_t] at h; simp at h
theorem ru_inv {m : Int} {s r : ByteArray} {f : Bool} {n : Int} (h : rup m s f = (n, r, false)) : f = false ∧ 0 ≤ n ∧ n ≤ m ∧ nbs s = spl n.toNat ++ nbs r := by
  unfold rup at h
  cases hd : decide (m < (rnum s f).1)
  · rw [hd] at h
    simp only [cond_false] at h
    obtain ⟨h1, h2, h3⟩ := rn_inv h
    rw [h] at hd
    simp at hd
    exact ⟨h1, h2, hd, h3⟩
  · rw [hd] at h
    simp at h
theorem bt_of (n : Int) (h0 : 0 ≤ n) (h1 : n ≤ 1) : bt (n == 1) = n := by
  have : n = 0 ∨ n = 1 := by omega
  rcases this with rfl | rfl <;> rfl
theorem rc_inv {s r : ByteArray} {f : Bool} {x : Cs} (h : rc s f = (x, r, false)) : f = false ∧ nbs s = pls (cn x) ++ nbs r := by
  unfold rc at h
  obtain ⟨b, s1, f1, e1⟩ : ∃ b s1 f1, rup 1 s f = (b, s1, f1) := ⟨_, _, _, rfl⟩
  rw [e1] at h
  simp only at h
  obtain ⟨c, s2, f2, e2⟩ : ∃ c s2 f2, rnum s1 f1 = (c, s2, f2) := ⟨_, _, _, rfl⟩
  rw [e2] at h
  simp only at h
  obtain ⟨v, s3, f3, e3⟩ : ∃ v s3 f3, rnum s2 f2 = (v, s3, f3) := ⟨_, _, _, rfl⟩
  rw [e3] at h
  simp only [Prod.mk.injEq] at h
  obtain ⟨rfl, rfl, rfl⟩ := h
  obtain ⟨rfl, _, q3⟩ := rn_inv e3
  obtain ⟨rfl, _, q2⟩ := rn_inv e2
  obtain ⟨rfl, p0, p1, q1⟩ := ru_inv e1
  refine ⟨rfl, ?_⟩
  rw [q1, q2, q3]
  simp [pls, cn, bt_of b p0 p1]
theorem rcs_inv {s : ByteArray} {f : Bool} : ∀ {j : Nat} {l : List Cs} {r : ByteArray}, rcs s f j = (l, r, false) → f = false ∧ nbs s = pls (l.flatMap cn) ++ nbs r
  | 0, l, r, h => by
    simp only [rcs, Prod.mk.injEq] at h
    obtain ⟨rfl, rfl, rfl⟩ := h
    exact ⟨rfl, rfl⟩
  | j + 1, l, r, h => by
    rw [rcs] at h
    obtain ⟨l0, s0, f0, e0⟩ : ∃ l0 s0 f0, rcs s f j = (l0, s0, f0) := ⟨_, _, _, rfl⟩
    rw [e0] at h
    simp only [Prod.mk.injEq] at h
    obtain ⟨h1, h2⟩ := h
    obtain ⟨rfl, q⟩ := rc_inv (s := s0) (f := f0) (x := (rc s0 f0).1) (r := r) (by rw [← h2])
    obtain ⟨rfl, q0⟩ := rcs_inv e0
    refine ⟨rfl, ?_⟩
    rw [q0, q, ← h1, List.flatMap_append, pls_append, List.append_assoc]
    simp
theorem rf_inv {s r : ByteArray} {f : Bool} {n : Nat} (hn : n ≤ 2) {a b : Int} (h : rf s f n = (a, b, r, false)) : f = false ∧ nbs s = pls ([a, b].take n) ++ nbs r := by
  match n, hn with
  | 0, _ =>
    simp only [rf, Prod.mk.injEq] at h
    obtain ⟨_, _, rfl, rfl⟩ := h
    exact ⟨rfl, rfl⟩
  | 1, _ =>
    simp only [rf, Prod.mk.injEq] at h
    obtain ⟨h1, _, h2, h3⟩ := h
    obtain ⟨rfl, _, q⟩ := rn_inv (s := s) (f := f) (n := a) (r := r) (by rw [← h1, ← h2, ← h3])
    refine ⟨rfl, ?_⟩
    rw [q]
    simp [pls]
  | 2, _ =>
    simp only [rf, Prod.mk.injEq] at h
    obtain ⟨h1, h2, h3, h4⟩ := h
    obtain ⟨x, s1, f1, e1⟩ : ∃ x s1 f1, rnum s f = (x, s1, f1) := ⟨_, _, _, rfl⟩
    rw [e1] at h1 h2 h3 h4
    simp only at h1 h2 h3 h4
    obtain ⟨rfl, _, q2⟩ := rn_inv (s := s1) (f := f1) (n := b) (r := r) (by rw [← h2, ← h3, ← h4])
    obtain ⟨rfl, _, q1⟩ := rn_inv e1
    refine ⟨rfl, ?_⟩
    rw [q1, q2, ← h1]
    simp [pls]
theorem rop_inv {s r : ByteArray} {o : OpD} (h : rop s false = (o, r, false)) : nbs s = pls (nums o) ++ nbs r := by
  unfold rop at h
  obtain ⟨k, s1, f1, e1⟩ : ∃ k s1 f1, rnum s false = (k, s1, f1) := ⟨_, _, _, rfl⟩
  rw [e1] at h
  simp only at h
  obtain ⟨a, b, s2, f2, e2⟩ : ∃ a b s2 f2, rf s1 f1 (nf k) = (a, b, s2, f2) := ⟨_, _, _, _, rfl⟩
  rw [e2] at h
  simp only at h
  cases h6 : k == 6
  · rw [h6] at h
    simp only [cond_false, Prod.mk.injEq] at h
    obtain ⟨rfl, rfl, rfl⟩ := h
    obtain ⟨rfl, q2⟩ := rf_inv (nf_le k) e2
    obtain ⟨_, _, q1⟩ := rn_inv e1
    rw [q1, q2]
    simp [nums, h6, pls]
  · rw [h6] at h
    obtain rfl : k = 6 := by simpa using h6
    simp only [cond_true] at h
    obtain ⟨dn, s3, f3, e3⟩ : ∃ dn s3 f3, rup 1 s2 f2 = (dn, s3, f3) := ⟨_, _, _, rfl⟩
    rw [e3] at h
    simp only at h
    obtain ⟨n, s4, f4, e4⟩ : ∃ n s4 f4, rup 4 s3 f3 = (n, s4, f4) := ⟨_, _, _, rfl⟩
    rw [e4] at h
    simp only at h
    obtain ⟨l, s5, f5, e5⟩ : ∃ l s5 f5, rcs s4 f4 n.toNat = (l, s5, f5) := ⟨_, _, _, rfl⟩
    rw [e5] at h
    simp only [Prod.mk.injEq] at h
    obtain ⟨rfl, rfl, rfl⟩ := h
    have hl := rcs_len s4 f4 n.toNat
    rw [e5] at hl
    simp only at hl
    obtain ⟨rfl, q5⟩ := rcs_inv e5
    obtain ⟨rfl, n0, _, q4⟩ := ru_inv e4
    obtain ⟨rfl, d0, d1, q3⟩ := ru_inv e3
    obtain ⟨rfl, q2⟩ := rf_inv (nf_le 6) e2
    obtain ⟨_, _, q1⟩ := rn_inv e1
    rw [q1, q2, q3, q4, q5]
    have en : (l.length : Int) = n := by omega
    simp [nums, pls, nf, bt_of dn d0 d1, en]

end De
end Go.Proofs.YtblfimobiibmjaaGreat
/- Package reel: PutList, over this seat's program. -/
namespace Go.Proofs.YtblfimobiibmjaaGreat
open Go.ChangeShapes Go.WideShapes Go.ChangeAt Go.RowKit
namespace Re
open Ba

/-- the bytes of numbers, one behind the other -/
def pls (l : List Int) : List Nat := l.flatMap fun n => spl n.toNat
/-- a list's bytes -/
def plist (l : List Int) : List Nat := spl l.length ++ pls l
theorem pls_take (l : List Int) (k : Nat) (h : k < l.length) : pls (l.take (k + 1)) = pls (l.take k) ++ spl (nth l k).toNat := by
  rw [pls, List.take_add_one, List.getElem?_eq_getElem h, nth_lt l k h, List.flatMap_append]
  show _ ++ (spl _ ++ []) = _
  rw [List.append_nil]
  rfl
theorem pls_len (l : List Int) : (pls l).length ≤ 7 * l.length := by
  induction l with
  | nil => simp [pls]
  | cons n l ih =>
    have := (spl_len n.toNat).2
    simp [pls] at ih ⊢
    omega
/-- the list's bytes up to k -/
def ppre (l : List Int) (k : Nat) : List Nat := spl l.length ++ pls (l.take k)
theorem ppre_len (l : List Int) (k : Nat) (h : k ≤ l.length) : 1 ≤ (ppre l k).length ∧ (ppre l k).length ≤ 7 + 7 * k := by
  have h1 := spl_len l.length
  have h2 := pls_len (l.take k)
  simp [ppre] at h2 ⊢
  omega
theorem ppre_succ (l : List Int) (k : Nat) (h : k < l.length) : ppre l (k + 1) = ppre l k ++ spl (nth l k).toNat := by
  rw [ppre, pls_take l k h, ppre, List.append_assoc]
theorem ppre_all (l : List Int) : ppre l l.length = plist l := by rw [ppre, List.take_length, plist]
theorem all_ok {l : List Int} (h : ∀ j, j < l.length → okR (nth l j) = true) : l.all okR = true := by
  rw [List.all_eq_true]
  intro x hx
  obtain ⟨j, hj, rfl⟩ := List.getElem_of_mem hx
  have := h j hj
  rwa [nth_lt l j hj] at this
theorem all_not {l : List Int} (j : Nat) (hj : j < l.length) (h : okR (nth l j) = false) : l.all okR = false := by
  rw [List.all_eq_false]
  exact ⟨l[j], List.getElem_mem hj, by rw [nth_lt l j hj] at h; simp [h]⟩
theorem info_byte : (Tryz.prog.info? 5).map (fun i => (i.zero, i.size, i.bytes)) = some (some (.int .u8 0), 1, 1) := by kernel_rfl
def bv (L : List Nat) : List Value := L.map fun b => .int .u8 ((UInt8.ofNat b).toNat : Int)
theorem bv_length (L : List Nat) : (bv L).length = L.length := by simp [bv]
theorem bv_append (K L : List Nat) : bv (K ++ L) = bv K ++ bv L := by simp [bv]
theorem bv_one (L : List Nat) : ∀ u ∈ bv L, u.oneCell' = true := by
  intro u hu
  simp only [bv, List.mem_map] at hu
  obtain ⟨_, _, rfl⟩ := hu
  rfl
theorem room_src {w : World} {b a : Nat} {L : List Nat} {t : TypeId} (h : w.heap[b]? = some (.cells (rm L) t (0, 0))) (ha : a + L.length = 7) (hL : ∀ b ∈ L, b < 256) : ∀ j u, (bv L)[j]? = some u → w.cell? (Addr.add ⟨b, a, none⟩ j) = some u := by
  intro j u hj
  have hl : j < L.length := by
    have := (List.getElem?_eq_some_iff.1 hj).1
    rwa [bv_length] at this
  rw [Addr.add_lit, cell_of h, rm_from L a j ha hl hL, ← hj]
  simp [bv, hl]
end Re
end Go.Proofs.YtblfimobiibmjaaGreat
/- The reference's PutList, over this seat's program. -/
namespace Go.Proofs.YtblfimobiibmjaaGreat
open Go.ChangeShapes Go.WideShapes Go.ChangeAt Go.RowKit
namespace Re
open Ba

theorem okR_no {n : Nat} (h : ¬ n ≤ 1099511627776) : okR (n : Int) = false := by
  have : ¬ (okR (n : Int) = true) := by rw [okR_iff]; omega
  simpa using this

end Re
end Go.Proofs.YtblfimobiibmjaaGreat
/- Package reel: TakeList, over this seat's program. -/
namespace Go.Proofs.YtblfimobiibmjaaGreat
open Go.ChangeShapes Go.WideShapes Go.ChangeAt Go.RowKit
namespace Re
open Ba

theorem tk_le {L : List Nat} {n k : Nat} (h : tk L = some (n, k)) : 1 ≤ k ∧ k ≤ L.length := by
  cases L with
  | nil => simp [tk] at h
  | cons b t =>
    simp only [tk] at h
    split at h
    · simp at h
      obtain ⟨_, rfl⟩ := h
      simp
    · split at h
      · rename_i q
        simp at h
        obtain ⟨_, rfl⟩ := h
        simp
        omega
      · simp at h
theorem tk_bound {L : List Nat} {n k : Nat} (h : tk L = some (n, k)) : n ≤ 1099511627776 := by
  cases L with
  | nil => simp [tk] at h
  | cons b t =>
    simp only [tk] at h
    split at h
    · simp at h
      obtain ⟨rfl, _⟩ := h
      omega
    · split at h
      · rename_i q
        simp only [Option.some.injEq, Prod.mk.injEq] at h
        obtain ⟨rfl, _⟩ := h
        have := q.2.2.2
        by_cases e : vl (t.take (b - 240)) ≤ 1099511627776
        · exact e
        · rw [szn_hi _ e] at this; omega
      · simp at h
/-- the first i numbers with which bytes begin, and how many bytes they have -/
def tst (L : List Nat) : Nat → Option (List Int × Nat)
  | 0 => some ([], 0)
  | i + 1 => match tst L i with
    | none => none
    | some (xs, o) => match tk (L.drop o) with
      | none => none
      | some (x, k) => some (xs ++ [(x : Int)], o + k)
theorem tst_some {L : List Nat} : ∀ {i : Nat} {xs : List Int} {o : Nat}, tst L i = some (xs, o) → xs.length = i ∧ i ≤ o ∧ o ≤ L.length
  | 0, xs, o, h => by
    simp [tst] at h
    obtain ⟨rfl, rfl⟩ := h
    simp
  | i + 1, xs, o, h => by
    rw [tst] at h
    cases hi : tst L i with
    | none => rw [hi] at h; simp at h
    | some p =>
      obtain ⟨ys, q⟩ := p
      rw [hi] at h
      have ih := tst_some hi
      simp only at h
      cases ht : tk (L.drop q) with
      | none => rw [ht] at h; simp at h
      | some z =>
        obtain ⟨x, k⟩ := z
        rw [ht] at h
        simp at h
        obtain ⟨rfl, rfl⟩ := h
        have := tk_le ht
        simp at this ⊢
        omega
theorem tst_next {L : List Nat} {i o x k : Nat} {xs : List Int} (h : tst L i = some (xs, o)) (ht : tk (L.drop o) = some (x, k)) : tst L (i + 1) = some (xs ++ [(x : Int)], o + k) := by
  rw [tst, h]; simp only [ht]
theorem tst_stop {L : List Nat} {i o : Nat} {xs : List Int} (h : tst L i = some (xs, o)) (ht : tk (L.drop o) = none) : ∀ n, i < n → tst L n = none := by
  intro n
  induction n with
  | zero => intro q; omega
  | succ n ih =>
    intro q
    by_cases e : i = n
    · subst e
      rw [tst, h]; simp only [ht]
    · rw [tst, ih (by omega)]

theorem run_mk (w : World) (n : Nat) (hn : n ≤ 5000000) : (Instr.makeSlice 67 (.int .i64 (n : Int)) (.int .i64 (n : Int))).run Tryz.prog w = .ok (.slice (some ⟨w.heap.size, 0, none⟩) n n) (w.alloc (.cells (madeCells #[.int .i64 0] n) 3)) := by
  obtain ⟨i0, hi, hz0, hz1, hz2⟩ := info_parts info_int
  have := run_make (P := Tryz.prog) w 67 3 i0 (.int .i64 0) Tryz.underlying67 hi hz0 .i64 .i64 n n (by omega) (Int.le_refl _) (by rw [hz2]; omega) (by omega)
  rw [hz1] at this
  simpa [Value.cells] using this

/-- numbers, and noughts behind them -/
def fillc (xs : List Int) (n : Nat) : Array Value := (xs.map (Value.int .i64) ++ List.replicate (n - xs.length) (Value.int .i64 0)).toArray
theorem fillc_nil (n : Nat) : madeCells #[Value.int .i64 0] n = fillc [] n := by
  apply Array.toList_inj.1
  rw [toList_madeCells_one]
  simp [fillc]
theorem fillc_set (xs : List Int) (n : Nat) (x : Int) (h : xs.length < n) : (fillc xs n).setIfInBounds xs.length (.int .i64 x) = fillc (xs ++ [x]) n := by
  apply Array.toList_inj.1
  obtain ⟨q, hq⟩ : ∃ q, n - xs.length = q + 1 := ⟨n - xs.length - 1, by omega⟩
  have e : n - (xs ++ [x]).length = q := by simp; omega
  simp only [fillc, hq, e, List.replicate_succ, Array.toList_setIfInBounds, List.map_append]
  simp
theorem fillc_at (xs : List Int) (n k : Nat) (h : k < n) : ∃ x : Int, (fillc xs n)[k]? = some (.int .i64 x) := by
  by_cases hk : k < xs.length
  · exact ⟨xs[k], by simp [fillc, List.getElem?_append, hk]⟩
  · refine ⟨0, ?_⟩
    have h2 : k - xs.length < n - xs.length := by omega
    simp only [fillc, List.getElem?_toArray]
    rw [List.getElem?_append_right (by simp; omega), List.length_map, List.getElem?_replicate, if_pos h2]
theorem fillc_row (xs : List Int) (n : Nat) (h : xs.length = n) : fillc xs n = row xs := by simp [fillc, row, h]
theorem At.of {w : World} {b : Nat} {xs : List Int} {t : TypeId} {fr : Nat × Nat} (h : w.heap[b]? = some (.cells (row xs) t fr)) : At w (some ⟨b, 0, none⟩) xs := by
  intro k hk
  refine ⟨b, 0, rfl, ?_⟩
  rw [Nat.zero_add, cell_of h, row_at xs k hk]

/-- the list with which bytes begin, and how many are its own; or the error -/
def tl (L : List Nat) (most : Int) : Except Int (List Int × Nat) :=
  match tk L with
  | none => .error 4
  | some (n, k) => if most < (n : Int) then .error 2 else match tst (L.drop k) n with
    | none => .error 4
    | some (xs, o) => .ok (xs, k + o)
theorem nbs_sfx (s : ByteArray) (a : Nat) : nbs (s.extract a s.size) = (nbs s).drop a := by
  rw [nbs_extract, ← nbs_length, List.take_length]
theorem sfx_sfx (s : ByteArray) (a b : Nat) : (s.extract a s.size).extract b (s.extract a s.size).size = s.extract (a + b) s.size := by
  apply nbs_inj
  rw [nbs_sfx, nbs_sfx, nbs_sfx, List.drop_drop]

theorem tl_size {L : List Nat} {most : Int} {xs : List Int} {z : Nat} (h : tl L most = .ok (xs, z)) : xs.length < z ∧ z ≤ L.length := by
  unfold tl at h
  cases ht : tk L with
  | none => rw [ht] at h; simp at h
  | some p =>
    obtain ⟨n, k⟩ := p
    rw [ht] at h
    simp only at h
    by_cases hm : most < (n : Int)
    · rw [if_pos hm] at h; simp at h
    · rw [if_neg hm] at h
      cases hq : tst (L.drop k) n with
      | none => rw [hq] at h; simp at h
      | some p =>
        obtain ⟨ys, o⟩ := p
        rw [hq] at h
        simp at h
        obtain ⟨rfl, rfl⟩ := h
        have hl := tst_some hq
        have hk := tk_le ht
        rw [List.length_drop] at hl
        omega
end Re
end Go.Proofs.YtblfimobiibmjaaGreat
/- The reference's TakeList, over this seat's program. -/
namespace Go.Proofs.YtblfimobiibmjaaGreat
open Go.ChangeShapes Go.WideShapes Go.ChangeAt Go.RowKit
namespace Re
open Ba

theorem owns_setCell {w : World} {base : Nat} {e : TypeId} {size : Nat} {v : Value} {n : Nat} {xs : List Value} (h : w.ownsRow base e size v n xs) (b i : Nat) (hb : b < base) (u : Value) : (w.setCell ⟨b, i, none⟩ u).ownsRow base e size v n xs := by
  refine ⟨h.1, ?_⟩
  rcases h.2 with q | ⟨g, cap, cur, q1, q2, q3, q4⟩
  · exact .inl q
  · exact .inr ⟨g, cap, cur, q1, q2, (Below.heap_setCell _ _ _ _ (by show g ≠ b; omega)).trans q3, q4⟩
theorem heap_lt {w : World} {b : Nat} {o : Obj} (h : w.heap[b]? = some o) : b < w.heap.size := by
  rcases Nat.lt_or_ge b w.heap.size with q | q
  · exact q
  · rw [Array.getElem?_eq_none q] at h; cases h

end Re
end Go.Proofs.YtblfimobiibmjaaGreat
/- There and back: numbers and lists of numbers, plain. -/
namespace Go.Proofs.YtblfimobiibmjaaGreat
open Go.ChangeShapes Go.WideShapes Go.ChangeAt Go.RowKit
namespace Re
open Ba

theorem foldl_dg (k n : Nat) : ∀ a, (dg k n).foldl (fun a b => 256 * a + b) a = a * 256 ^ k + n % 256 ^ k := by
  induction k with
  | zero => intro a; simp [dg, Nat.mod_one]
  | succ k ih =>
    intro a
    rw [show dg (k + 1) n = n / 256 ^ k % 256 :: dg k n from rfl, List.foldl_cons, ih, Nat.mod_pow_succ, Nat.pow_succ, Nat.add_mul]
    have e1 : 256 * a * 256 ^ k = a * (256 ^ k * 256) := by rw [Nat.mul_comm 256 a, Nat.mul_assoc, Nat.mul_comm 256]
    have e2 : n / 256 ^ k % 256 * 256 ^ k = 256 ^ k * (n / 256 ^ k % 256) := Nat.mul_comm _ _
    rw [e1, e2]
    omega
theorem vl_dg (k n : Nat) (h : n < 256 ^ k) : vl (dg k n) = n := by
  have := foldl_dg k n 0
  rw [Nat.zero_mul, Nat.zero_add, Nat.mod_eq_of_lt h] at this
  exact this
set_option maxRecDepth 100000 in
theorem nb_holds (n : Nat) (h : n ≤ 1099511627776) : n < 256 ^ nb n := by
  unfold nb
  by_cases h1 : n < 256
  · rw [if_pos h1]; exact h1
  rw [if_neg h1]
  by_cases h2 : n < 65536
  · rw [if_pos h2]; exact h2
  rw [if_neg h2]
  by_cases h3 : n < 16777216
  · rw [if_pos h3]; exact h3
  rw [if_neg h3]
  by_cases h4 : n < 4294967296
  · rw [if_pos h4]; exact h4
  rw [if_neg h4]
  by_cases h5 : n < 1099511627776
  · rw [if_pos h5]; exact h5
  rw [if_neg h5]
  have : 256 ^ 6 = 281474976710656 := rfl
  omega
theorem tk_spl (n : Nat) (R : List Nat) (h : n ≤ 1099511627776) : tk (spl n ++ R) = some (n, (spl n).length) := by
  by_cases h1 : n < 240
  · rw [spl_lo n h1]
    simp [tk, h1]
  · have hz := szn_lo n h
    rw [spl_hi n (by omega)] at hz ⊢
    rw [List.length_cons, dg_length] at hz
    rw [List.length_cons, dg_length, List.cons_append]
    have h2 := nb_le n
    have h3 := nb_pos n
    have e : 240 + nb n - 240 = nb n := by omega
    have et : (dg (nb n) n ++ R).take (nb n) = dg (nb n) n := by
      rw [List.take_append_of_le_length (by rw [dg_length]; exact Nat.le_refl _), List.take_of_length_le (by rw [dg_length]; exact Nat.le_refl _)]
    have ev := vl_dg (nb n) n (nb_holds n h)
    simp only [tk]
    rw [if_neg (by omega), e, et, ev, if_pos ⟨h3, h2, by rw [List.length_append, dg_length]; omega, by omega⟩, Nat.add_comm]
theorem pls_append (a b : List Int) : pls (a ++ b) = pls a ++ pls b := by simp [pls]
theorem pls_cons (x : Int) (l : List Int) : pls (x :: l) = spl x.toNat ++ pls l := by simp [pls]
theorem tst_pls (l : List Int) (R : List Nat) (h : ∀ x ∈ l, okR x = true) : ∀ i, i ≤ l.length → tst (pls l ++ R) i = some (l.take i, (pls (l.take i)).length) := by
  intro i
  induction i with
  | zero => intro _; simp [tst, pls]
  | succ i ih =>
    intro hi
    have hi' : i < l.length := by omega
    have h0 := ih (by omega)
    have hx := (okR_iff _).1 (h l[i] (List.getElem_mem hi'))
    have ed : (pls l ++ R).drop (pls (l.take i)).length = spl (l[i]).toNat ++ (pls (l.drop (i + 1)) ++ R) := by
      have e1 : pls l = pls (l.take i) ++ pls (l.drop i) := by rw [← pls_append, List.take_append_drop]
      rw [e1, List.append_assoc, List.drop_left]
      rw [List.drop_eq_getElem_cons hi', pls_cons, List.append_assoc]
    have ht := tk_spl (l[i]).toNat (pls (l.drop (i + 1)) ++ R) (by omega)
    rw [← ed] at ht
    have := tst_next h0 ht
    rw [this, pls_take l i hi', List.length_append, nth_lt l i hi']
    have e2 : l.take i ++ [((l[i]).toNat : Int)] = l.take (i + 1) := by
      rw [show ((l[i]).toNat : Int) = l[i] by omega, List.take_append_getElem]
    rw [e2]
theorem tl_plist (l : List Int) (R : List Nat) (hl : l.length ≤ 2000) (h : l.all okR = true) : tl (plist l ++ R) (l.length : Int) = .ok (l, (plist l).length) := by
  have h' : ∀ x ∈ l, okR x = true := List.all_eq_true.1 h
  have h1 := tk_spl l.length (pls l ++ R) (by omega)
  rw [← List.append_assoc] at h1
  have h2 := tst_pls l R h' l.length (Nat.le_refl _)
  rw [List.take_length] at h2
  unfold tl
  rw [show plist l = spl l.length ++ pls l from rfl, h1]
  simp only
  rw [if_neg (by omega), List.append_assoc, List.drop_left, h2]
  simp
theorem tk_put {L : List Nat} {n k : Nat} (hL : ∀ b ∈ L, b < 256) (h : tk L = some (n, k)) : spl n ++ L.drop k = L := by
  cases L with
  | nil => simp [tk] at h
  | cons b t =>
    simp only [tk] at h
    by_cases h1 : b < 240
    · rw [if_pos h1] at h
      simp at h
      obtain ⟨rfl, rfl⟩ := h
      rw [spl_lo b h1]
      rfl
    · rw [if_neg h1] at h
      split at h
      · rename_i q
        simp only [Option.some.injEq, Prod.mk.injEq] at h
        obtain ⟨rfl, rfl⟩ := h
        have := ((fit_iff (t.take (b - 240)) (b - 240) q.1 (by simp; omega) (fun x hx => hL x (List.mem_cons_of_mem _ (List.mem_of_mem_take hx)))).1 q.2.2.2).2
        rw [this, show 240 + (b - 240) = b by omega, Nat.add_comm 1]
        simp
      · simp at h
end Re
end Go.Proofs.YtblfimobiibmjaaGreat
/- Scripts in memory; package sheet: between, allBetween, isLong, areRight, over this seat's program. -/
namespace Go.Proofs.YtblfimobiibmjaaGreat
open Go.ChangeShapes Go.WideShapes Go.ChangeAt Go.RowKit
namespace Sh
open De Ba Re

/-- the cells from oa on hold operations -/
def OAt (w : World) (oa : Option Addr) (l : List OpD) : Prop :=
  ∀ k o, l[k]? = some o → ∃ b off ca cc, oa = some ⟨b, off, none⟩ ∧ (w.cell? ⟨b, off + k * 5, none⟩ = some (.int .i64 o.kind) ∧ w.cell? ⟨b, off + k * 5 + 1, none⟩ = some (.int .i64 o.a) ∧ w.cell? ⟨b, off + k * 5 + 2, none⟩ = some (.int .i64 o.b) ∧ w.cell? ⟨b, off + k * 5 + 3, none⟩ = some (.slice ca o.cases.length cc) ∧ w.cell? ⟨b, off + k * 5 + 4, none⟩ = some (.bool o.def_)) ∧ CAt w ca o.cases ∧ o.cases.length ≤ maxLen
theorem cellB {w w' : World} {a : Addr} {v : Value} (h : w.cell? a = some v) (hb : Below w.heap.size w w') : w'.cell? a = some v := (hb.cell (World.block_lt_of_cell? w _ h)).trans h
theorem OAt.below {w w' : World} {oa : Option Addr} {l : List OpD} (h : OAt w oa l) (hb : Below w.heap.size w w') : OAt w' oa l := by
  intro k o hk
  obtain ⟨b, off, ca, cc, he, ⟨h0, h1, h2, h3, h4⟩, hc, hm⟩ := h k o hk
  exact ⟨b, off, ca, cc, he, ⟨cellB h0 hb, cellB h1 hb, cellB h2 hb, cellB h3 hb, cellB h4 hb⟩, hc.below hb, hm⟩
theorem OAt.nil (w : World) (oa : Option Addr) : OAt w oa [] := fun _ _ hk => by simp at hk
/-- the cells from oa on hold programs -/
def PAt (w : World) (oa : Option Addr) (l : List (List OpD)) : Prop :=
  ∀ k p, l[k]? = some p → ∃ b off pa pc, oa = some ⟨b, off, none⟩ ∧ w.cell? ⟨b, off + k, none⟩ = some (.slice pa p.length pc) ∧ OAt w pa p ∧ p.length ≤ maxLen
theorem PAt.below {w w' : World} {oa : Option Addr} {l : List (List OpD)} (h : PAt w oa l) (hb : Below w.heap.size w w') : PAt w' oa l := by
  intro k p hk
  obtain ⟨b, off, pa, pc, he, h0, h1, h2⟩ := h k p hk
  exact ⟨b, off, pa, pc, he, cellB h0 hb, h1.below hb, h2⟩
theorem PAt.nil (w : World) (oa : Option Addr) : PAt w oa [] := fun _ _ hk => by simp at hk

/-- all from lo to hi -/
def ab (lo hi : Int) (l : List Int) : Bool := l.all fun x => decide (lo ≤ x) && decide (x ≤ hi)
theorem ab_iff (lo hi : Int) (l : List Int) : ab lo hi l = true ↔ ∀ x ∈ l, lo ≤ x ∧ x ≤ hi := by
  simp [ab]
theorem ab_nth {lo hi : Int} {l : List Int} : ab lo hi l = true ↔ ∀ k, k < l.length → lo ≤ nth l k ∧ nth l k ≤ hi := by
  rw [ab_iff]
  constructor
  · intro h k hk
    rw [nth_lt l k hk]
    exact h _ (List.getElem_mem hk)
  · intro h x hx
    obtain ⟨k, hk, rfl⟩ := List.mem_iff_getElem.1 hx
    rw [← nth_lt l k hk]
    exact h k hk
theorem sc_cells {w : World} {B : Nat} {v0 v1 v2 v3 v4 : Value} {t : TypeId} (h : w.heap[B]? = some (.cells #[v0, v1, v2, v3, v4] t (0, 0))) : w.cell? ⟨B, 0, none⟩ = some v0 ∧ w.cell? ⟨B, 1, none⟩ = some v1 ∧ w.cell? ⟨B, 2, none⟩ = some v2 ∧ w.cell? ⟨B, 3, none⟩ = some v3 ∧ w.cell? ⟨B, 4, none⟩ = some v4 :=
  ⟨cell_of h 0, cell_of h 1, cell_of h 2, cell_of h 3, cell_of h 4⟩
/-- is there too much of it? -/
def isl (ps : List (List OpD)) (p d : Nat) : Bool := ps.any (fun p => decide (32 < p.length)) || (decide (8 < ps.length) || decide (200 < p) || decide (64 < d))
theorem isl_long {ps : List (List OpD)} {p d k : Nat} {q : List OpD} (hk : ps[k]? = some q) (h : 32 < q.length) : isl ps p d = true := by
  have : ps.any (fun p => decide (32 < p.length)) = true := by
    rw [List.any_eq_true]
    exact ⟨q, List.mem_of_getElem? hk, by simpa using h⟩
  simp [isl, this]
theorem isl_short {ps : List (List OpD)} {p d : Nat} (h : ∀ (k : Nat) (q : List OpD), ps[k]? = some q → q.length ≤ 32) : isl ps p d = (decide (8 < ps.length) || decide (200 < p) || decide (64 < d)) := by
  have : ps.any (fun p => decide (32 < p.length)) = false := by
    rw [List.any_eq_false]
    intro q hq
    obtain ⟨k, hk⟩ := List.mem_iff_getElem?.1 hq
    have := h k q hk
    simp
    omega
  simp [isl, this]
/-- are all operations right, of n programs? -/
def ari (n : Int) (ps : List (List OpD)) : Bool := ps.all fun p => p.all fun o => chk o n == 0
theorem ari_no {n : Int} {ps : List (List OpD)} {k j : Nat} {q : List OpD} {o : OpD} (hk : ps[k]? = some q) (hj : q[j]? = some o) (h : (chk o n == 0) = false) : ari n ps = false := by
  rw [← Bool.not_eq_true]
  intro e
  rw [ari, List.all_eq_true] at e
  have := e q (List.mem_of_getElem? hk)
  rw [List.all_eq_true] at this
  have := this o (List.mem_of_getElem? hj)
  rw [h] at this
  cases this
theorem ari_yes {n : Int} {ps : List (List OpD)} (h : ∀ (k : Nat) (q : List OpD), ps[k]? = some q → ∀ (j : Nat) (o : OpD), q[j]? = some o → chk o n = 0) : ari n ps = true := by
  rw [ari, List.all_eq_true]
  intro q hq
  rw [List.all_eq_true]
  intro o ho
  obtain ⟨k, hk⟩ := List.mem_iff_getElem?.1 hq
  obtain ⟨j, hj⟩ := List.mem_iff_getElem?.1 ho
  simp [h k q hk j o hj]
theorem ari_of {n : Int} {ps : List (List OpD)} (h : ari n ps = true) {k j : Nat} {q : List OpD} {o : OpD} (hk : ps[k]? = some q) (hj : q[j]? = some o) : chk o n = 0 := by
  cases e : chk o n == 0
  · rw [ari_no hk hj e] at h; cases h
  · simpa using e

end Sh
end Go.Proofs.YtblfimobiibmjaaGreat
/- Package sheet: Check, over this seat's program. -/
namespace Go.Proofs.YtblfimobiibmjaaGreat
open Go.ChangeShapes Go.WideShapes Go.ChangeAt Go.RowKit
namespace Sh
open De Ba Re

/-- a script -/
structure Sc where
  T : Int
  M : Int
  ps : List (List OpD)
  pl : List Int
  dr : List Int
/-- which scripts are right -/
def schk (s : Sc) : Int :=
  bif !((decide (1 ≤ s.T) && decide (s.T ≤ 256)) && (decide (1 ≤ s.M) && decide (s.M ≤ 1048576))) then 1
  else bif isl s.ps s.pl.length s.dr.length then 2
  else bif !(!decide (s.ps.length = 0) && ari s.ps.length s.ps) then 4
  else bif !(ab (-1) 1000 s.pl && ab 0 1000 s.dr) then 4 else 0
/-- a script lies in memory -/
structure SAt (w : World) (s : Sc) (pa la da : Option Addr) : Prop where
  ps : PAt w pa s.ps
  pl : At w la s.pl
  dr : At w da s.dr
  h1 : s.ps.length ≤ maxLen
  h2 : s.pl.length ≤ maxLen
  h3 : s.dr.length ≤ maxLen
theorem SAt.below {w w' : World} {s : Sc} {pa la da : Option Addr} (h : SAt w s pa la da) (hb : Below w.heap.size w w') : SAt w' s pa la da :=
  ⟨h.ps.below hb, h.pl.below hb, h.dr.below hb, h.h1, h.h2, h.h3⟩

end Sh
end Go.Proofs.YtblfimobiibmjaaGreat
/- Package pew: who waits, as a chain of seats in memory, with its footprint. -/
namespace Go.Proofs.YtblfimobiibmjaaGreat
open Go.ChangeShapes Go.WideShapes Go.ChangeAt Go.RowKit
namespace Pe
open Ba

/-- a waiter -/
structure Wt where
  g : Int
  c : Int
  v : Int
def pt (o : Option Nat) : Value := .pointer (o.map fun b => ⟨b, 0, none⟩)
def lst (l : List (Nat × Wt)) : Option Nat := l.getLast?.map (·.1)
theorem lst_app (l : List (Nat × Wt)) (n : Nat × Wt) : lst (l ++ [n]) = some n.1 := by simp [lst]
theorem lst_nil : lst [] = none := rfl
end Pe
end Go.Proofs.YtblfimobiibmjaaGreat
/- Package pew: New, front, Len, First, link, Add, Take, over this seat's program. -/
namespace Go.Proofs.YtblfimobiibmjaaGreat
open Go.ChangeShapes Go.WideShapes Go.ChangeAt Go.RowKit
namespace Pe
open Ba

def wv (x : Wt) : Value := .agg #[.int .i64 x.g, .int .i64 x.c, .int .i64 x.v]
theorem three_set {w : World} {b : Nat} {x0 x1 x2 : Value} {t : TypeId} (h : w.heap[b]? = some (.cells #[x0, x1, x2] t (0, 0))) (u0 u1 u2 : Value) : (((w.setCell ⟨b, 0, none⟩ u0).setCell ⟨b, 1, none⟩ u1).setCell ⟨b, 2, none⟩ u2).heap[b]? = some (.cells #[u0, u1, u2] t (0, 0)) := by
  rw [Ba.heap_setCell_same (Ba.heap_setCell_same (Ba.heap_setCell_same h u0) u1) u2]
  rfl

/-- the first of them, and whether there is one -/
def fw : List Wt → Wt
  | [] => ⟨0, 0, 0⟩
  | x :: _ => x
def fo (l : List Wt) : Bool := !l.isEmpty
end Pe
end Go.Proofs.YtblfimobiibmjaaGreat
/- Package pew: how many seats there are from a pointer on. -/
namespace Go.Proofs.YtblfimobiibmjaaGreat
open Go.ChangeShapes Go.WideShapes Go.ChangeAt Go.RowKit
namespace Pe
open Ba

/-- how many seats there are from the pointer on -/
def ms (m : List (Nat × Wt)) : Value → Nat
  | .pointer (some a) => m.length - (m.map (·.1)).idxOf a.block
  | _ => 0
theorem ms_none (m : List (Nat × Wt)) : ms m (.pointer none) = 0 := rfl
theorem ms_at {m pre t : List (Nat × Wt)} {n : Nat × Wt} (h : m = pre ++ n :: t) (hn : (m.map (·.1)).Nodup) : ms m (.pointer (some ⟨n.1, 0, none⟩)) = t.length + 1 := by
  subst h
  unfold ms
  simp only
  rw [List.map_append, List.map_cons, List.idxOf_append]
  rw [List.map_append, List.map_cons, List.nodup_append] at hn
  have : n.1 ∉ pre.map (·.1) := fun hm => hn.2.2 n.1 hm n.1 (List.mem_cons_self ..) rfl
  rw [if_neg this, List.idxOf_cons_self]
  simp
def hasb (g : Int) (l : List Wt) : Bool := l.any fun x => x.g == g

end Pe
end Go.Proofs.YtblfimobiibmjaaGreat
/- Package pew: Drop, over this seat's program. -/
namespace Go.Proofs.YtblfimobiibmjaaGreat
open Go.ChangeShapes Go.WideShapes Go.ChangeAt Go.RowKit
namespace Pe
open Ba

/-- those that are left when all of g are gone -/
def dr (g : Int) (l : List Wt) : List Wt := l.filter fun x => !(x.g == g)
theorem dr_len (g : Int) (l : List Wt) : (dr g l).length ≤ l.length := List.length_filter_le _ _
end Pe
end Go.Proofs.YtblfimobiibmjaaGreat
/- Package pew: List, over this seat's program; rows of waiters. -/
namespace Go.Proofs.YtblfimobiibmjaaGreat
open Go.ChangeShapes Go.WideShapes Go.ChangeAt Go.RowKit
namespace Pe
open Ba

/-- the cells of waiters -/
def wc (l : List Wt) : List Value := l.flatMap fun x => [.int .i64 x.g, .int .i64 x.c, .int .i64 x.v]
theorem wc_nil : wc [] = [] := rfl
theorem wc_cons (x : Wt) (l : List Wt) : wc (x :: l) = .int .i64 x.g :: .int .i64 x.c :: .int .i64 x.v :: wc l := rfl
theorem wc_app (l m : List Wt) : wc (l ++ m) = wc l ++ wc m := by simp [wc]
theorem wc_len (l : List Wt) : (wc l).length = l.length * 3 := by
  induction l with
  | nil => rfl
  | cons x l ih => rw [wc_cons]; simp; omega
theorem wc_at : ∀ (l : List Wt) (k : Nat) (x : Wt), l[k]? = some x → (wc l)[k * 3]? = some (.int .i64 x.g) ∧ (wc l)[k * 3 + 1]? = some (.int .i64 x.c) ∧ (wc l)[k * 3 + 2]? = some (.int .i64 x.v)
  | [], _, _, h => by simp at h
  | y :: l, 0, x, h => by simp at h; subst h; exact ⟨rfl, rfl, rfl⟩
  | y :: l, k + 1, x, h => by
    rw [wc_cons]
    have := wc_at l k x (by simpa using h)
    rw [show (k + 1) * 3 = k * 3 + 3 by omega]
    exact this
theorem wc_one (l : List Wt) : ∀ u ∈ wc l, u.oneCell' = true := by
  induction l with
  | nil => intro u hu; simp [wc_nil] at hu
  | cons x l ih =>
    intro u hu
    rw [wc_cons] at hu
    simp at hu
    rcases hu with rfl | rfl | rfl | hu
    · rfl
    · rfl
    · rfl
    · exact ih u hu
/-- the cells from oa on are those of the waiters l -/
def WAt (w : World) (oa : Option Addr) (l : List Wt) : Prop :=
  ∀ k x, l[k]? = some x → ∃ b off, oa = some ⟨b, off, none⟩ ∧ w.cell? ⟨b, off + k * 3, none⟩ = some (.int .i64 x.g) ∧ w.cell? ⟨b, off + k * 3 + 1, none⟩ = some (.int .i64 x.c) ∧ w.cell? ⟨b, off + k * 3 + 2, none⟩ = some (.int .i64 x.v)
theorem WAt.nil (w : World) (oa : Option Addr) : WAt w oa [] := fun _ _ h => by simp at h
theorem WAt.below {w w' : World} {oa : Option Addr} {l : List Wt} (h : WAt w oa l) (hb : Below w.heap.size w w') : WAt w' oa l := by
  intro k x hk
  obtain ⟨b, off, e, h0, h1, h2⟩ := h k x hk
  exact ⟨b, off, e, (hb.cell (World.block_lt_of_cell? w _ h0)).trans h0, (hb.cell (World.block_lt_of_cell? w _ h1)).trans h1, (hb.cell (World.block_lt_of_cell? w _ h2)).trans h2⟩
theorem owns_wat {w : World} {base : Nat} {e : TypeId} {v : Value} {l : List Wt} (h : w.ownsRow base e 3 v l.length (wc l)) : ∃ oa c, v = .slice oa l.length c ∧ WAt w oa l ∧ l.length ≤ c ∧ ∀ a, oa = some a → base ≤ a.block := by
  rcases h.2 with ⟨rfl, h0⟩ | ⟨g, cap, cur, rfl, hbase, hg, hc, _, hcs, htk⟩
  · refine ⟨none, 0, by rw [h0], ?_, by omega, fun a e => by cases e⟩
    obtain rfl := List.eq_nil_of_length_eq_zero h0
    exact WAt.nil _ _
  · refine ⟨_, cap, rfl, ?_, hc, fun a e => by cases e; exact hbase⟩
    intro k x hk
    have hkl := (List.getElem?_eq_some_iff.1 hk).1
    obtain ⟨q0, q1, q2⟩ := wc_at l k x hk
    rw [← htk, List.getElem?_take_of_lt (by omega)] at q0 q1 q2
    refine ⟨g, 0, rfl, ?_, ?_, ?_⟩
    · rw [Nat.zero_add, cell_of hg]; simpa using q0
    · rw [Nat.zero_add, cell_of hg]; simpa using q1
    · rw [Nat.zero_add, cell_of hg]; simpa using q2
theorem src3 (w : World) (x : Wt) (t : TypeId) : ∀ j u, (wc [x])[j]? = some u → (w.alloc (.cells #[.int .i64 x.g, .int .i64 x.c, .int .i64 x.v] t)).cell? ((⟨w.heap.size, 0, none⟩ : Addr).add j) = some u := by
  intro j u hj
  rw [Addr.add_lit, Nat.zero_add, cell_of (heap_new _ _)]
  rw [wc_cons, wc_nil] at hj
  rw [← hj]
  simp

theorem WAt.keep {w w' : World} {oa : Option Addr} {l : List Wt} (h : WAt w oa l) (hk : ∀ a, oa = some a → w'.heap[a.block]? = w.heap[a.block]?) : WAt w' oa l := by
  intro k x hx
  obtain ⟨b, off, e, h0, h1, h2⟩ := h k x hx
  have q := hk _ e
  simp only at q
  refine ⟨b, off, e, ?_, ?_, ?_⟩
  · rw [← h0]; simp only [World.cell?, q]
  · rw [← h1]; simp only [World.cell?, q]
  · rw [← h2]; simp only [World.cell?, q]
theorem WAt.lt {w : World} {oa : Option Addr} {l : List Wt} (h : WAt w oa l) (hl : 0 < l.length) (a : Addr) (e : oa = some a) : a.block < w.heap.size := by
  obtain ⟨b, off, e2, h0, h1, h2⟩ := h 0 _ (List.getElem?_eq_getElem hl)
  rw [e] at e2
  cases e2
  exact World.block_lt_of_cell? w _ h0
theorem WAt.keep' {w w' : World} {F : Nat → Prop} {oa : Option Addr} {l : List Wt} (h : WAt w oa l) (k : KF F w w') (hn : ∀ a, oa = some a → ¬ F a.block) (hl : 0 < l.length) : WAt w' oa l :=
  h.keep fun a e => k.block a.block (h.lt hl a e) (hn a e)
/-- a list in new blocks stays, whatever is done to F -/
theorem WAt.kf {w w' : World} {F : Nat → Prop} {oa : Option Addr} {l : List Wt} (h : WAt w oa l) (k : KF F w w') (hn : ∀ a, oa = some a → ¬ F a.block) : WAt w' oa l := by
  intro j x hx
  have hl : 0 < l.length := Nat.lt_of_le_of_lt (Nat.zero_le _) (List.getElem?_eq_some_iff.1 hx).1
  exact h.keep' k hn hl j x hx
end Pe
end Go.Proofs.YtblfimobiibmjaaGreat
/- Package pew: Add, Take of whatever pew, over this seat's program. -/
namespace Go.Proofs.YtblfimobiibmjaaGreat
open Go.ChangeShapes Go.WideShapes Go.ChangeAt Go.RowKit
namespace Pe
open Ba

def okb (x : Wt) : Bool := decide (0 ≤ x.g) && decide (-1 ≤ x.c)
theorem okb_iff (x : Wt) : okb x = true ↔ 0 ≤ x.g ∧ -1 ≤ x.c := by simp [okb]
theorem okb_not (x : Wt) : okb x = false ↔ x.g < 0 ∨ x.c < -1 := by
  rw [← Bool.not_eq_true, okb_iff]
  omega
/-- what Add answers, and then is there -/
def ae (l : List Wt) (x : Wt) : Int := if okb x = true then (if l.length = 1024 then 5 else 0) else 1
def al (l : List Wt) (x : Wt) : List Wt := if okb x = true then (if l.length = 1024 then l else l ++ [x]) else l
theorem dr_take {g : Int} {l : List Wt} {k : Nat} {x : Wt} (h : l[k]? = some x) : dr g (l.take (k + 1)) = if (x.g == g) = true then dr g (l.take k) else dr g (l.take k) ++ [x] := by
  unfold dr
  rw [List.take_add_one, h, List.filter_append]
  cases hg : x.g == g <;> simp [hg]
end Pe
end Go.Proofs.YtblfimobiibmjaaGreat
/- Package ring: New, place, Len, Cap, At, Push, Pop, Turn, over this seat's program. -/
namespace Go.Proofs.YtblfimobiibmjaaGreat
open Go.ChangeShapes Go.WideShapes Go.ChangeAt Go.RowKit
namespace Rn
open Ba

def up (v : Nat → Int) (k : Nat) (x : Int) : Nat → Int := fun j => if j = k then x else v j
theorem up_same (v : Nat → Int) (k : Nat) (x : Int) : up v k x k = x := by simp [up]
theorem up_other (v : Nat → Int) (k : Nat) (x : Int) (j : Nat) (h : j ≠ k) : up v k x j = v j := by simp [up, h]
end Rn
end Go.Proofs.YtblfimobiibmjaaGreat
/- Package ring: At, Push, Pop, Turn, over this seat's program. -/
namespace Go.Proofs.YtblfimobiibmjaaGreat
open Go.ChangeShapes Go.WideShapes Go.ChangeAt Go.RowKit
namespace Rn
open Ba

/-- what a ring of capacity s answers, and then holds -/
def pe (s : Nat) (l : List Int) : Int := if l.length < s then 0 else 5
def pl (s : Nat) (l : List Int) (x : Int) : List Int := if l.length < s then l ++ [x] else l
def oe (l : List Int) : Int := if l.length = 0 then 6 else 0
def tl (l : List Int) (x : Int) : List Int := if l.length = 0 then l else l.tail ++ [x]
def atv (l : List Int) (i : Int) : Int := if i < 0 ∨ (l.length : Int) ≤ i then 0 else nth l i.toNat
def ate (l : List Int) (i : Int) : Int := if i < 0 ∨ (l.length : Int) ≤ i then 6 else 0
end Rn
end Go.Proofs.YtblfimobiibmjaaGreat
/- Package pipe: a channel in memory, and what its calls answer. -/
namespace Go.Proofs.YtblfimobiibmjaaGreat
open Go.ChangeShapes Go.WideShapes Go.ChangeAt Go.RowKit
namespace Pi
open Ba Pe

/-- a channel: its capacity, its values, who waits, its counts, whether it is closed -/
structure St where
  size : Nat
  buf : List Int
  snd : List Wt
  rcv : List Wt
  sent : Nat
  got : Nat
  closed : Bool
/-- what a try tells -/
structure Gt where
  rd : Bool
  ok : Bool
  wk : Bool
  v : Int
  m : Wt
def gv (g : Gt) : Value := .agg #[.bool g.rd, .bool g.ok, .bool g.wk, .int .i64 g.v, .int .i64 g.m.g, .int .i64 g.m.c, .int .i64 g.m.v]
def gz : Gt := ⟨false, false, false, 0, ⟨0, 0, 0⟩⟩
/-- Send: what it tells, its error, and then the channel -/
def sendG (st : St) : Gt :=
  if st.closed then gz else match st.rcv with
  | y :: _ => ⟨true, false, true, 0, y⟩
  | [] => if st.buf.length < st.size then ⟨true, false, false, 0, ⟨0, 0, 0⟩⟩ else gz
def sendE (st : St) : Int := if st.closed then 90 else 0
def sendS (st : St) (x : Int) : St :=
  if st.closed then st else match st.rcv with
  | _ :: t => { st with rcv := t, sent := st.sent + 1, got := st.got + 1 }
  | [] => if st.buf.length < st.size then { st with buf := st.buf ++ [x], sent := st.sent + 1 } else st
def recvG (st : St) : Gt :=
  match st.buf, st.snd with
  | [], [] => ⟨st.closed, false, false, 0, ⟨0, 0, 0⟩⟩
  | [], y :: _ => ⟨true, true, true, y.v, y⟩
  | x :: _, [] => ⟨true, true, false, x, ⟨0, 0, 0⟩⟩
  | x :: _, y :: _ => ⟨true, true, true, x, y⟩
def recvS (st : St) : St :=
  match st.buf, st.snd with
  | [], [] => st
  | [], _ :: t => { st with snd := t, sent := st.sent + 1, got := st.got + 1 }
  | _ :: b, [] => { st with buf := b, got := st.got + 1 }
  | _ :: b, y :: t => { st with buf := b ++ [y.v], snd := t, sent := st.sent + 1, got := st.got + 1 }
/-- is there room, or a value? -/
def room (st : St) (send : Bool) : Bool := if send then decide (st.buf.length < st.size) else decide (0 < st.buf.length)
/-- who waits so, and the other way -/
def own (st : St) (send : Bool) : List Wt := if send then st.snd else st.rcv
def rdy (st : St) (send : Bool) : Bool := st.closed || room st send || decide (0 < (own st (!send)).length)
def rdyBut (st : St) (send : Bool) (g : Int) : Bool := st.closed || room st send || decide (0 < (dr g (own st (!send))).length)
def waitE (st : St) (send : Bool) (x : Wt) : Int := if rdyBut st send x.g = true then 7 else ae (own st send) x
def waitS (st : St) (send : Bool) (x : Wt) : St :=
  if rdyBut st send x.g = true then st else if send then { st with snd := al st.snd x } else { st with rcv := al st.rcv x }
def closeE (st : St) : Int := if st.closed then 90 else 0
def closeS (st : St) : St := if st.closed then st else { st with snd := [], rcv := [], closed := true }
def closeL (st : St) (send : Bool) : List Wt := if st.closed then [] else own st send
def dropS (st : St) (g : Int) : St := { st with snd := dr g st.snd, rcv := dr g st.rcv }
def dropN (st : St) (g : Int) : Int := ((st.snd.length : Int) - ((dr g st.snd).length : Int)) + ((st.rcv.length : Int) - ((dr g st.rcv).length : Int))
end Pi
end Go.Proofs.YtblfimobiibmjaaGreat
/- The reference's channel in memory, over this seat's program. -/
namespace Go.Proofs.YtblfimobiibmjaaGreat
open Go.ChangeShapes Go.WideShapes Go.ChangeAt Go.RowKit
namespace Rp
open Ba Pe _root_.Go.Proofs.YtblfimobiibmjaaGreat.Pi

/-- the cells of numbers -/
def ic (l : List Int) : List Value := l.map (Value.int .i64)
theorem ic_len (l : List Int) : (ic l).length = l.length := by simp [ic]
theorem ic_app (l m : List Int) : ic (l ++ m) = ic l ++ ic m := by simp [ic]
theorem ic_one (l : List Int) : ∀ u ∈ ic l, u.oneCell' = true := by
  intro u hu
  obtain ⟨z, _, rfl⟩ := List.mem_map.1 hu
  rfl
theorem own_keep {w w' : World} {base : Nat} {e : TypeId} {size : Nat} {v : Value} {n : Nat} {xs : List Value} (h : w.ownsRow base e size v n xs) (hk : ∀ g, v.ownBlock = some g → w'.heap[g]? = w.heap[g]?) : w'.ownsRow base e size v n xs := by
  refine ⟨h.1, ?_⟩
  rcases h.2 with q | ⟨g, cap, cur, q1, q2, q3, q4⟩
  · exact .inl q
  · exact .inr ⟨g, cap, cur, q1, q2, (hk g (by rw [q1]; rfl)).trans q3, q4⟩
theorem own_base {w : World} {base base' : Nat} {e : TypeId} {size : Nat} {v : Value} {n : Nat} {xs : List Value} (h : w.ownsRow base e size v n xs) (hb : base' ≤ base) : w.ownsRow base' e size v n xs := by
  refine ⟨h.1, ?_⟩
  rcases h.2 with q | ⟨g, cap, cur, q1, q2, q3, q4⟩
  · exact .inl q
  · exact .inr ⟨g, cap, cur, q1, by omega, q3, q4⟩
theorem own_blk {w : World} {base : Nat} {e : TypeId} {size : Nat} {v : Value} {n : Nat} {xs : List Value} (h : w.ownsRow base e size v n xs) (g : Nat) (hg : v.ownBlock = some g) : base ≤ g ∧ ∃ cur, w.heap[g]? = some (.cells cur e (0, 0)) := by
  rcases h.2 with ⟨rfl, _⟩ | ⟨g', cap, cur, rfl, q2, q3, q4⟩
  · simp [Value.ownBlock] at hg
  · simp [Value.ownBlock] at hg
    subst hg
    exact ⟨q2, cur, q3⟩
theorem own_ne {w : World} {b1 b2 : Nat} {e1 e2 : TypeId} {s1 s2 : Nat} {v1 v2 : Value} {n1 n2 : Nat} {x1 x2 : List Value} (h1 : w.ownsRow b1 e1 s1 v1 n1 x1) (h2 : w.ownsRow b2 e2 s2 v2 n2 x2) (he : e1 ≠ e2) (g : Nat) (hg : v1.ownBlock = some g) : v2.ownBlock ≠ some g := by
  intro hg2
  obtain ⟨_, c1, q1⟩ := own_blk h1 g hg
  obtain ⟨_, c2, q2⟩ := own_blk h2 g hg2
  rw [q1] at q2
  cases q2
  exact he rfl
theorem own_at {w : World} {base : Nat} {v : Value} {l : List Int} (h : w.ownsRow base 3 1 v l.length (ic l)) : ∃ oa c, v = .slice oa l.length c ∧ At w oa l ∧ l.length ≤ c := by
  rcases h.2 with ⟨rfl, h0⟩ | ⟨g, cap, cur, rfl, _, hg, hc, _, hcs, htk⟩
  · refine ⟨none, 0, by rw [h0], ?_, by omega⟩
    obtain rfl := List.eq_nil_of_length_eq_zero h0
    exact At.nil _ _
  · refine ⟨_, cap, rfl, ?_, hc⟩
    intro k hk
    refine ⟨g, 0, rfl, ?_⟩
    have q : (ic l)[k]? = some (.int .i64 (nth l k)) := by simp [ic, nth, hk]
    rw [← htk, List.getElem?_take_of_lt (by omega)] at q
    rw [Nat.zero_add, cell_of hg]
    simpa using q
def Gp (w : World) (G : Nat) (size : Nat) (vL vS vQ : Value) (cl : Bool) (sent got : Nat) : Prop :=
  w.heap[G]? = some (.cells #[.int .i64 (size : Int), vL, vS, vQ, .bool cl, .int .i64 (sent : Int), .int .i64 (got : Int)] 211 (0, 0))
/-- the reference's channel in block G, its rows, all inside F -/
structure RO (w : World) (G : Nat) (F : Nat → Prop) (vL vS vQ : Value) (st : St) : Prop where
  hp : Gp w G st.size vL vS vQ st.closed st.sent st.got
  rl : w.ownsRow 0 3 1 vL st.buf.length (ic st.buf)
  rs : w.ownsRow 0 207 3 vS st.snd.length (wc st.snd)
  rq : w.ownsRow 0 207 3 vQ st.rcv.length (wc st.rcv)
  ap : ∀ g, vS.ownBlock = some g → vQ.ownBlock ≠ some g
  fg : F G
  fl : ∀ g, vL.ownBlock = some g → F g
  fs : ∀ g, vS.ownBlock = some g → F g
  fq : ∀ g, vQ.ownBlock = some g → F g
  bd : Bd F w
  les : st.snd.length ≤ 1024
  leq : st.rcv.length ≤ 1024
  bl : st.buf.length ≤ st.size
  sz : st.size ≤ 4
def Rr (w : World) (G : Nat) (F : Nat → Prop) (st : St) : Prop := ∃ vL vS vQ, RO w G F vL vS vQ st
theorem RO.rr {w : World} {G : Nat} {F : Nat → Prop} {vL vS vQ : Value} {st : St} (h : RO w G F vL vS vQ st) : Rr w G F st := ⟨vL, vS, vQ, h⟩
theorem Rr.bd {w : World} {G : Nat} {F : Nat → Prop} {st : St} (h : Rr w G F st) : Bd F w := by
  obtain ⟨vL, vS, vQ, h⟩ := h
  exact h.bd
theorem Rr.own {w : World} {G : Nat} {F : Nat → Prop} {st : St} (h : Rr w G F st) : F G := by
  obtain ⟨vL, vS, vQ, h⟩ := h
  exact h.fg
theorem Rr.lt {w : World} {G : Nat} {F : Nat → Prop} {st : St} (h : Rr w G F st) : G < w.heap.size := h.bd G h.own
theorem RO.sm {w w' : World} {G : Nat} {F : Nat → Prop} {vL vS vQ : Value} {st : St} (h : RO w G F vL vS vQ st) (s : Sm F w w') : RO w' G F vL vS vQ st :=
  ⟨s.heap h.fg h.hp, own_keep h.rl fun g e => s g (h.fl g e), own_keep h.rs fun g e => s g (h.fs g e), own_keep h.rq fun g e => s g (h.fq g e), h.ap, h.fg, h.fl, h.fs, h.fq, h.bd.sm s, h.les, h.leq, h.bl, h.sz⟩
theorem RO.below {w w' : World} {G : Nat} {F : Nat → Prop} {vL vS vQ : Value} {st : St} (h : RO w G F vL vS vQ st) (hb : Below w.heap.size w w') : RO w' G F vL vS vQ st := h.sm (Sm.below hb h.bd)
theorem Rr.sm {w w' : World} {G : Nat} {F : Nat → Prop} {st : St} (h : Rr w G F st) (s : Sm F w w') : Rr w' G F st := by
  obtain ⟨vL, vS, vQ, h⟩ := h
  exact (h.sm s).rr
theorem Rr.below {w w' : World} {G : Nat} {F : Nat → Prop} {st : St} (h : Rr w G F st) (hb : Below w.heap.size w w') : Rr w' G F st := h.sm (Sm.below hb h.bd)
theorem Rr.kf {w w' : World} {G : Nat} {F K : Nat → Prop} {st : St} (h : Rr w G F st) (k : KF K w w') (hd : ∀ x, F x → ¬ K x) : Rr w' G F st := h.sm (Sm.kf k h.bd hd)
/-- a cell of G is laid anew; the rows are there already -/
theorem RO.put {w : World} {G : Nat} {F : Nat → Prop} {cs : Array Value} {i : Nat} {v vL vS vQ : Value} {st : St} (hG : w.heap[G]? = some (.cells cs 211 (0, 0)))
    (hc : cs.setIfInBounds i v = #[.int .i64 (st.size : Int), vL, vS, vQ, .bool st.closed, .int .i64 (st.sent : Int), .int .i64 (st.got : Int)])
    (rl : w.ownsRow 0 3 1 vL st.buf.length (ic st.buf)) (rs : w.ownsRow 0 207 3 vS st.snd.length (wc st.snd)) (rq : w.ownsRow 0 207 3 vQ st.rcv.length (wc st.rcv))
    (ap : ∀ g, vS.ownBlock = some g → vQ.ownBlock ≠ some g) (fg : F G) (fl : ∀ g, vL.ownBlock = some g → F g) (fs : ∀ g, vS.ownBlock = some g → F g) (fq : ∀ g, vQ.ownBlock = some g → F g) (bd : Bd F w)
    (les : st.snd.length ≤ 1024) (leq : st.rcv.length ≤ 1024) (bl : st.buf.length ≤ st.size) (sz : st.size ≤ 4) : RO (w.setCell ⟨G, i, none⟩ v) G F vL vS vQ st := by
  have K := (KB.refl G w).setCell i v
  have ne : ∀ {e : TypeId} {s : Nat} {u : Value} {n : Nat} {xs : List Value}, w.ownsRow 0 e s u n xs → 211 ≠ e → ∀ g, u.ownBlock = some g → g ≠ G := by
    intro e s u n xs h he g hg e2
    subst e2
    exact own_ty h hG he hg.symm
  have kp : ∀ {e : TypeId} {s : Nat} {u : Value} {n : Nat} {xs : List Value}, w.ownsRow 0 e s u n xs → 211 ≠ e → (w.setCell ⟨G, i, none⟩ v).ownsRow 0 e s u n xs := by
    intro e s u n xs h he
    refine own_keep h fun g hg => ?_
    obtain ⟨_, cur, q⟩ := own_blk h g hg
    exact K.block g (heap_lt q) (ne h he g hg)
  exact ⟨(Ba.heap_setCell_same hG v).trans (by rw [hc]), kp rl (by decide), kp rs (by decide), kp rq (by decide), ap, fg, fl, fs, fq, bd.mono K.size, les, leq, bl, sz⟩
theorem RO.setSent {w : World} {G : Nat} {F : Nat → Prop} {vL vS vQ : Value} {st : St} (h : RO w G F vL vS vQ st) (n : Nat) (x : Int) (hx : x = (n : Int)) : RO (w.setCell ⟨G, 5, none⟩ (.int .i64 x)) G F vL vS vQ { st with sent := n } := by
  subst hx
  exact RO.put h.hp rfl h.rl h.rs h.rq h.ap h.fg h.fl h.fs h.fq h.bd h.les h.leq h.bl h.sz
theorem RO.setGot {w : World} {G : Nat} {F : Nat → Prop} {vL vS vQ : Value} {st : St} (h : RO w G F vL vS vQ st) (n : Nat) (x : Int) (hx : x = (n : Int)) : RO (w.setCell ⟨G, 6, none⟩ (.int .i64 x)) G F vL vS vQ { st with got := n } := by
  subst hx
  exact RO.put h.hp rfl h.rl h.rs h.rq h.ap h.fg h.fl h.fs h.fq h.bd h.les h.leq h.bl h.sz
theorem RO.setClosed {w : World} {G : Nat} {F : Nat → Prop} {vL vS vQ : Value} {st : St} (h : RO w G F vL vS vQ st) (b : Bool) : RO (w.setCell ⟨G, 4, none⟩ (.bool b)) G F vL vS vQ { st with closed := b } :=
  RO.put h.hp rfl h.rl h.rs h.rq h.ap h.fg h.fl h.fs h.fq h.bd h.les h.leq h.bl h.sz
/-- F, and a row's block -/
def Fw (F : Nat → Prop) (v : Value) : Nat → Prop := fun k => F k ∨ v.ownBlock = some k
theorem Fw.bd {w : World} {F : Nat → Prop} {base : Nat} {e : TypeId} {size : Nat} {v : Value} {n : Nat} {xs : List Value} (h : Bd F w) (r : w.ownsRow base e size v n xs) : Bd (Fw F v) w := by
  intro k hk
  rcases hk with q | q
  · exact h k q
  · obtain ⟨_, cur, q2⟩ := own_blk r k q
    exact heap_lt q2
theorem Fw.nw {w w' : World} {F : Nat → Prop} {e : TypeId} {size : Nat} {v : Value} {n : Nat} {xs : List Value} {N : Nat} (r : w.ownsRow N e size v n xs) (hN : w'.heap.size ≤ N) : Nw (Fw F v) F w' := by
  intro k hk
  rcases hk with q | q
  · exact .inl q
  · exact .inr (Nat.le_trans hN (own_blk r k q).1)
theorem RO.newL {w : World} {G N : Nat} {F : Nat → Prop} {vL vS vQ v : Value} {st : St} {l : List Int} (h : RO w G F vL vS vQ st) (r : w.ownsRow N 3 1 v l.length (ic l)) (hl : l.length ≤ st.size) : RO (w.setCell ⟨G, 1, none⟩ v) G (Fw F v) v vS vQ { st with buf := l } :=
  RO.put h.hp rfl (own_base r (Nat.zero_le _)) h.rs h.rq h.ap (.inl h.fg) (fun _ e => .inr e) (fun g e => .inl (h.fs g e)) (fun g e => .inl (h.fq g e)) (Fw.bd h.bd r) h.les h.leq hl h.sz
theorem RO.newS {w : World} {G N : Nat} {F : Nat → Prop} {vL vS vQ v : Value} {st : St} {l : List Wt} (h : RO w G F vL vS vQ st) (r : w.ownsRow N 207 3 v l.length (wc l)) (hN : ∀ k, F k → k < N) (hl : l.length ≤ 1024) : RO (w.setCell ⟨G, 2, none⟩ v) G (Fw F v) vL v vQ { st with snd := l } :=
  RO.put h.hp rfl h.rl (own_base r (Nat.zero_le _)) h.rq (fun g e e2 => by have h1 := (own_blk r g e).1; have h2 := hN g (h.fq g e2); omega) (.inl h.fg) (fun g e => .inl (h.fl g e)) (fun _ e => .inr e) (fun g e => .inl (h.fq g e)) (Fw.bd h.bd r) hl h.leq h.bl h.sz
theorem RO.newQ {w : World} {G N : Nat} {F : Nat → Prop} {vL vS vQ v : Value} {st : St} {l : List Wt} (h : RO w G F vL vS vQ st) (r : w.ownsRow N 207 3 v l.length (wc l)) (hN : ∀ k, F k → k < N) (hl : l.length ≤ 1024) : RO (w.setCell ⟨G, 3, none⟩ v) G (Fw F v) vL vS v { st with rcv := l } :=
  RO.put h.hp rfl h.rl h.rs (own_base r (Nat.zero_le _)) (fun g e e2 => by have h1 := (own_blk r g e2).1; have h2 := hN g (h.fs g e); omega) (.inl h.fg) (fun g e => .inl (h.fl g e)) (fun g e => .inl (h.fs g e)) (fun _ e => .inr e) (Fw.bd h.bd r) h.les hl h.bl h.sz
theorem KF.grown {F : Nat → Prop} {w a b : World} {o : Option Nat} (k : KF F w a) (g : a.grownBy b o) (h : ∀ x, o = some x → F x ∨ w.heap.size ≤ x) : KF F w b :=
  ⟨g.os.trans k.os, g.tape.trans k.tape, g.output.trans k.output, Nat.le_trans k.size g.size, fun x hx hr => (g.block x (Nat.lt_of_lt_of_le hx k.size) (fun e => by
    rcases h x e.symm with q | q
    · exact hr q
    · omega)).trans (k.block x hx hr)⟩
theorem heap_grown {a b : World} {o : Option Nat} {x : Nat} {ob : Obj} (g : a.grownBy b o) (h : a.heap[x]? = some ob) (hn : o ≠ some x) : b.heap[x]? = some ob := (g.block x (heap_lt h) (fun e => hn e.symm)).trans h
/-- one value more, in place or not -/
theorem RO.appL {w w' : World} {G : Nat} {F : Nat → Prop} {vL vS vQ v : Value} {st : St} {l : List Int} (h : RO w G F vL vS vQ st) (g : w.grownBy w' vL.ownBlock) (r : w'.ownsRow 0 3 1 v l.length (ic l)) (hl : l.length ≤ st.size) :
    RO (w'.setCell ⟨G, 1, none⟩ v) G (Fw F v) v vS vQ { st with buf := l } := by
  have hG : w'.heap[G]? = _ := heap_grown g h.hp (fun e => own_ty h.rl h.hp (by decide) e.symm)
  have bd' : Bd F w' := h.bd.mono g.size
  exact RO.put hG rfl r (own_keep h.rs fun k e => g.block k (h.bd k (h.fs k e)) (fun e2 => own_ne h.rs h.rl (by decide) k e e2.symm)) (own_keep h.rq fun k e => g.block k (h.bd k (h.fq k e)) (fun e2 => own_ne h.rq h.rl (by decide) k e e2.symm)) h.ap (.inl h.fg) (fun _ e => .inr e) (fun k e => .inl (h.fs k e)) (fun k e => .inl (h.fq k e)) (Fw.bd bd' r) h.les h.leq hl h.sz
theorem RO.appS {w w' : World} {G : Nat} {F : Nat → Prop} {vL vS vQ v : Value} {st : St} {l : List Wt} (h : RO w G F vL vS vQ st) (g : w.grownBy w' vS.ownBlock) (r : w'.ownsRow 0 207 3 v l.length (wc l)) (hat : v.ownBlock = vS.ownBlock ∨ v.ownBlock = some w.heap.size) (hl : l.length ≤ 1024) :
    RO (w'.setCell ⟨G, 2, none⟩ v) G (Fw F v) vL v vQ { st with snd := l } := by
  have hG : w'.heap[G]? = _ := heap_grown g h.hp (fun e => own_ty h.rs h.hp (by decide) e.symm)
  have bd' : Bd F w' := h.bd.mono g.size
  refine RO.put hG rfl (own_keep h.rl fun k e => g.block k (h.bd k (h.fl k e)) (fun e2 => own_ne h.rl h.rs (by decide) k e e2.symm)) r (own_keep h.rq fun k e => g.block k (h.bd k (h.fq k e)) (fun e2 => h.ap k e2.symm e)) ?_ (.inl h.fg) (fun k e => .inl (h.fl k e)) (fun _ e => .inr e) (fun k e => .inl (h.fq k e)) (Fw.bd bd' r) hl h.leq h.bl h.sz
  intro k e e2
  rcases hat with q | q
  · exact h.ap k (q ▸ e) e2
  · rw [q] at e
    cases e
    have := h.bd _ (h.fq _ e2)
    omega
theorem RO.appQ {w w' : World} {G : Nat} {F : Nat → Prop} {vL vS vQ v : Value} {st : St} {l : List Wt} (h : RO w G F vL vS vQ st) (g : w.grownBy w' vQ.ownBlock) (r : w'.ownsRow 0 207 3 v l.length (wc l)) (hat : v.ownBlock = vQ.ownBlock ∨ v.ownBlock = some w.heap.size) (hl : l.length ≤ 1024) :
    RO (w'.setCell ⟨G, 3, none⟩ v) G (Fw F v) vL vS v { st with rcv := l } := by
  have hG : w'.heap[G]? = _ := heap_grown g h.hp (fun e => own_ty h.rq h.hp (by decide) e.symm)
  have bd' : Bd F w' := h.bd.mono g.size
  refine RO.put hG rfl (own_keep h.rl fun k e => g.block k (h.bd k (h.fl k e)) (fun e2 => own_ne h.rl h.rq (by decide) k e e2.symm)) (own_keep h.rs fun k e => g.block k (h.bd k (h.fs k e)) (fun e2 => h.ap k e e2.symm)) r ?_ (.inl h.fg) (fun k e => .inl (h.fl k e)) (fun k e => .inl (h.fs k e)) (fun _ e => .inr e) (Fw.bd bd' r) h.les hl h.bl h.sz
  intro k e e2
  rcases hat with q | q
  · exact h.ap k e (q ▸ e2)
  · rw [q] at e2
    cases e2
    have := h.bd _ (h.fs _ e)
    omega
theorem Fw.at {F : Nat → Prop} {v v0 : Value} {w : World} {N : Nat} (hat : v.ownBlock = v0.ownBlock ∨ v.ownBlock = some N) (h0 : ∀ g, v0.ownBlock = some g → F g) (hs : w.heap.size ≤ N) : Nw (Fw F v) F w := by
  intro k hk
  rcases hk with q | q
  · exact .inl q
  · rcases hat with e | e
    · exact .inl (h0 k (e ▸ q))
    · rw [e] at q
      cases q
      exact .inr hs
end Rp
end Go.Proofs.YtblfimobiibmjaaGreat
/- Package pipe: New, and what only looks, over this seat's program. -/
namespace Go.Proofs.YtblfimobiibmjaaGreat
open Go.ChangeShapes Go.WideShapes Go.ChangeAt Go.RowKit
namespace Pi
open Ba Pe

theorem hmf : ∀ (fn : Fn) (first cap : Array Value) (w : World), (Instr.makeFunc fn first cap).run Tryz.prog w = .ok (.func fn first cap) w := fun _ _ _ _ => rfl
def st0 (s : Nat) : St := ⟨s, [], [], [], 0, 0, false⟩
def sd (S Q : Nat) (b : Bool) : Nat := if b then S else Q
end Pi
end Go.Proofs.YtblfimobiibmjaaGreat
