import Derived.Test.YtblfimobiibmjaaGreatZjAh9
import Derived.LoopN
import Derived.Deep.RegionHeld3
import Derived.Deep.AppendLies
import Derived.Deep.Slices
import Derived.ShutString
import Derived.ChangeOld
import Derived.Laws.AppendOwn
import Derived.Lib.AppendZeros
import Derived.Deep.RegionWith
import Derived.Maps.AppendAt
namespace Go.Proofs.YtblfimobiibmjaaGreat
open Go.ChangeShapes Go.WideShapes Go.ChangeAt Go.RowKit
namespace Cr
open Ba
theorem Cw.grow {T E : TypeId} {w w1 w2 : World} {B : Nat} {F : Nat → Prop} {oa oa' : Option Addr} {c c' : Nat} {l : List Mb} {x : Mb} (h : Cw T E w1 B F oa c l) (b1 : Below w.heap.size w w1) (hF : Bd F w) (hT : T ≠ E)
 (ho : w2.ownsRow 0 E 3 (.slice oa' (l ++ [x]).length c') (l ++ [x]).length (mc (l ++ [x]))) (hg : w1.grownBy w2 (Value.slice oa l.length c).ownBlock)
 (hat : (Value.slice oa' (l ++ [x]).length c').ownBlock = (Value.slice oa l.length c).ownBlock ∨ (Value.slice oa' (l ++ [x]).length c').ownBlock = some w1.heap.size) (hl : l.length < 512) :
 Po T E w (w2.setCell ⟨B, 0, none⟩ (.slice oa' (l ++ [x]).length c')) B F (l ++ [x]) := by
 have hB : some B ≠ (Value.slice oa l.length c).ownBlock := own_ty h.ow h.hp hT
 have hB2 : w2.heap[B]? = some (.cells #[.slice oa l.length c] T (0, 0)) := (hg.block B h.lt hB).trans h.hp
 have kf : KF F w w2 := by
  refine ⟨hg.os.trans b1.os, hg.tape.trans b1.tape, hg.output.trans b1.output, Nat.le_trans b1.size hg.size, fun k hk hn => ?_⟩
  refine (hg.block k (Nat.lt_of_lt_of_le hk b1.size) ?_).trans (b1.block k hk)
  intro e
  exact hn (h.fr k e.symm)
 refine ⟨_, ⟨oa', c', Cw.put hB2 ho hT h.fb ((hF.mono b1.size).mono hg.size) (by simp; omega)⟩, kf.set h.fb _ _, ?_⟩
 intro k hk
 rcases hk with q | q
 ·exact .inl q
 ·rcases hat with e | e
  ·rw [e] at q
   exact .inl (h.fr k q)
  ·rw [e] at q
   cases q
   exact .inr b1.size
end Cr
end Go.Proofs.YtblfimobiibmjaaGreat
namespace Go.Proofs.YtblfimobiibmjaaGreat
open Go.ChangeShapes Go.WideShapes Go.ChangeAt Go.RowKit
namespace Cr
open Ba
def ic (l : List Int) : List Value := l.map (Value.int .i64)
theorem ic_app (l m : List Int) : ic (l ++ m) = ic l ++ ic m := by simp [ic]
theorem info_i : (Tryz.prog.info? 3).map (fun i => (i.zero, i.size, i.bytes)) = some (some (.int .i64 0), 1, 8) := by kernel_rfl
theorem own_at {w : World} {base : Nat} {v : Value} {l : List Int} (h : w.ownsRow base 3 1 v l.length (ic l)) : ∃ oa c, v = .slice oa l.length c ∧ At w oa l ∧ l.length ≤ c := by
 rcases h.2 with ⟨rfl, h0⟩ | ⟨g, cap, cur, rfl, _, hg, hc, _, hcs, htk⟩
 ·refine ⟨none, 0, by rw [h0], ?_, by omega⟩
  obtain rfl := List.eq_nil_of_length_eq_zero h0
  exact At.nil _ _
 ·refine ⟨_, cap, rfl, ?_, hc⟩
  intro k hk
  refine ⟨g, 0, rfl, ?_⟩
  have q : (ic l)[k]? = some (.int .i64 (nth l k)) := by simp [ic, nth, hk]
  rw [← htk, List.getElem?_take_of_lt (by omega)] at q
  rw [Nat.zero_add, cell_of hg]
  simpa using q
end Cr
end Go.Proofs.YtblfimobiibmjaaGreat
namespace Go.Proofs.YtblfimobiibmjaaGreat
open Go.ChangeShapes Go.WideShapes Go.ChangeAt Go.RowKit
namespace De
open Ba Re
structure Cs where
 send : Bool
 ch : Int
 val : Int
structure OpD where
 kind : Int
 a : Int
 b : Int
 cases : List Cs
 def_ : Bool
def CAt (w : World) (oa : Option Addr) (l : List Cs) : Prop :=
 ∀ k, ∀ x, l[k]? = some x → ∃ b off, oa = some ⟨b, off, none⟩ ∧ w.cell? ⟨b, off + k * 3, none⟩ = some (.bool x.send) ∧ w.cell? ⟨b, off + k * 3 + 1, none⟩ = some (.int .i64 x.ch) ∧ w.cell? ⟨b, off + k * 3 + 2, none⟩ = some (.int .i64 x.val)
theorem CAt.below {w w' : World} {oa : Option Addr} {l : List Cs} (h : CAt w oa l) (hb : Below w.heap.size w w') : CAt w' oa l := by
 intro k x hk
 obtain ⟨b, off, he, h1, h2, h3⟩ := h k x hk
 exact ⟨b, off, he, (hb.cell (World.block_lt_of_cell? w _ h1)).trans h1, (hb.cell (World.block_lt_of_cell? w _ h2)).trans h2, (hb.cell (World.block_lt_of_cell? w _ h3)).trans h3⟩
def okP (p : Int) : Bool := decide (1 ≤ p) && decide (p ≤ 8)
def upB (n m : Int) : Bool := decide (0 ≤ n) && decide (n ≤ m)
def mA (k p : Int) : Int := if k = 1 then p - 1 else if k = 2 ∨ k = 3 ∨ k = 4 ∨ k = 5 ∨ k = 7 ∨ k = 8 then 7 else 0
def mB (k : Int) : Int := if k = 2 then 4 else if k = 3 then 99 else 0
theorem kind_cases {k : Int} (h1 : 1 ≤ k) (h2 : k ≤ 9) : k = 1 ∨ k = 2 ∨ k = 3 ∨ k = 4 ∨ k = 5 ∨ k = 6 ∨ k = 7 ∨ k = 8 ∨ k = 9 := by omega
def okC (x : Cs) : Bool := upB x.ch 7 && upB x.val (bif x.send then 99 else 0)
def chk (o : OpD) (p : Int) : Int :=
 if (okP p && (decide (1 ≤ o.kind) && decide (o.kind ≤ 9))) = false then 1
 else if 4 < o.cases.length then 2
 else if (upB o.a (mA o.kind p) && upB o.b (mB o.kind)) = false then 4
 else if o.kind ≠ 6 ∧ (o.def_ || decide (0 < o.cases.length)) = true then 4
 else if o.cases.all okC then 0 else 4
end De
end Go.Proofs.YtblfimobiibmjaaGreat
namespace Go.Proofs.YtblfimobiibmjaaGreat
open Go.ChangeShapes Go.WideShapes Go.ChangeAt Go.RowKit
namespace De
open Ba Re
theorem all_no {l : List Cs} {j : Nat} {x : Cs} (hx : l[j]? = some x) (h : okC x = false) : l.all okC = false := by
 rw [List.all_eq_false]
 exact ⟨x, List.mem_of_getElem? hx, by simp [h]⟩
theorem all_yes {l : List Cs} (h : ∀ (q : Nat) (x : Cs), l[q]? = some x → okC x = true) : l.all okC = true := by
 rw [List.all_eq_true]
 intro x hx
 obtain ⟨q, hq⟩ := List.getElem?_of_mem hx
 exact h q x hq
theorem okP_iff (p : Int) : okP p = true ↔ 1 ≤ p ∧ p ≤ 8 := by simp [okP]
end De
end Go.Proofs.YtblfimobiibmjaaGreat
namespace Go.Proofs.YtblfimobiibmjaaGreat
open Go.ChangeShapes Go.WideShapes Go.ChangeAt Go.RowKit
namespace De
open Ba Re
end De
end Go.Proofs.YtblfimobiibmjaaGreat
namespace Go.Proofs.YtblfimobiibmjaaGreat
open Go.ChangeShapes Go.WideShapes Go.ChangeAt Go.RowKit
namespace De
open Ba Re
theorem upB_iff (n m : Int) : upB n m = true ↔ 0 ≤ n ∧ n ≤ m := by simp [upB]
end De
end Go.Proofs.YtblfimobiibmjaaGreat
namespace Go.Proofs.YtblfimobiibmjaaGreat
open Go.ChangeShapes Go.WideShapes Go.ChangeAt Go.RowKit
namespace De
open Ba Re
end De
end Go.Proofs.YtblfimobiibmjaaGreat
namespace Go.Proofs.YtblfimobiibmjaaGreat
open Go.ChangeShapes Go.WideShapes Go.ChangeAt Go.RowKit
namespace De
open Ba Re
def cc (x : Cs) : List Value := [.bool x.send, .int .i64 x.ch, .int .i64 x.val]
end De
end Go.Proofs.YtblfimobiibmjaaGreat
namespace Go.Proofs.YtblfimobiibmjaaGreat
open Go.ChangeShapes Go.WideShapes Go.ChangeAt Go.RowKit
namespace De
open Ba Re
end De
end Go.Proofs.YtblfimobiibmjaaGreat
namespace Go.Proofs.YtblfimobiibmjaaGreat
open Go.ChangeShapes Go.WideShapes Go.ChangeAt Go.RowKit
namespace De
open Ba Re
end De
end Go.Proofs.YtblfimobiibmjaaGreat
namespace Go.Proofs.YtblfimobiibmjaaGreat
open Go.ChangeShapes Go.WideShapes Go.ChangeAt Go.RowKit
namespace De
open Ba Re
end De
end Go.Proofs.YtblfimobiibmjaaGreat
namespace Go.Proofs.YtblfimobiibmjaaGreat
open Go.ChangeShapes Go.WideShapes Go.ChangeAt Go.RowKit
namespace De
open Ba Re
section
variable {H : Type} {enc : TypeId × Value → H} {w : World}
end
end De
end Go.Proofs.YtblfimobiibmjaaGreat
namespace Go.Proofs.YtblfimobiibmjaaGreat
open Go.ChangeShapes Go.WideShapes Go.ChangeAt Go.RowKit
namespace De
open Ba Re
end De
end Go.Proofs.YtblfimobiibmjaaGreat
namespace Go.Proofs.YtblfimobiibmjaaGreat
open Go.ChangeShapes Go.WideShapes Go.ChangeAt Go.RowKit
namespace De
open Ba Re
end De
end Go.Proofs.YtblfimobiibmjaaGreat
namespace Go.Proofs.YtblfimobiibmjaaGreat
open Go.ChangeShapes Go.WideShapes Go.ChangeAt Go.RowKit
namespace Re
open Ba
end Re
end Go.Proofs.YtblfimobiibmjaaGreat
namespace Go.Proofs.YtblfimobiibmjaaGreat
open Go.ChangeShapes Go.WideShapes Go.ChangeAt Go.RowKit
namespace Re
open Ba
end Re
end Go.Proofs.YtblfimobiibmjaaGreat
namespace Go.Proofs.YtblfimobiibmjaaGreat
open Go.ChangeShapes Go.WideShapes Go.ChangeAt Go.RowKit
namespace Re
open Ba
end Re
end Go.Proofs.YtblfimobiibmjaaGreat
namespace Go.Proofs.YtblfimobiibmjaaGreat
open Go.ChangeShapes Go.WideShapes Go.ChangeAt Go.RowKit
namespace Re
open Ba
end Re
end Go.Proofs.YtblfimobiibmjaaGreat
namespace Go.Proofs.YtblfimobiibmjaaGreat
open Go.ChangeShapes Go.WideShapes Go.ChangeAt Go.RowKit
namespace Re
open Ba
end Re
end Go.Proofs.YtblfimobiibmjaaGreat
namespace Go.Proofs.YtblfimobiibmjaaGreat
open Go.ChangeShapes Go.WideShapes Go.ChangeAt Go.RowKit
namespace Sh
open De Ba Re
def OAt (w : World) (oa : Option Addr) (l : List OpD) : Prop :=
 ∀ k o, l[k]? = some o → ∃ b off ca cc, oa = some ⟨b, off, none⟩ ∧ (w.cell? ⟨b, off + k * 5, none⟩ = some (.int .i64 o.kind) ∧ w.cell? ⟨b, off + k * 5 + 1, none⟩ = some (.int .i64 o.a) ∧ w.cell? ⟨b, off + k * 5 + 2, none⟩ = some (.int .i64 o.b) ∧ w.cell? ⟨b, off + k * 5 + 3, none⟩ = some (.slice ca o.cases.length cc) ∧ w.cell? ⟨b, off + k * 5 + 4, none⟩ = some (.bool o.def_)) ∧ CAt w ca o.cases ∧ o.cases.length ≤ maxLen
theorem cellB {w w' : World} {a : Addr} {v : Value} (h : w.cell? a = some v) (hb : Below w.heap.size w w') : w'.cell? a = some v := (hb.cell (World.block_lt_of_cell? w _ h)).trans h
theorem OAt.below {w w' : World} {oa : Option Addr} {l : List OpD} (h : OAt w oa l) (hb : Below w.heap.size w w') : OAt w' oa l := by
 intro k o hk
 obtain ⟨b, off, ca, cc, he, ⟨h0, h1, h2, h3, h4⟩, hc, hm⟩ := h k o hk
 exact ⟨b, off, ca, cc, he, ⟨cellB h0 hb, cellB h1 hb, cellB h2 hb, cellB h3 hb, cellB h4 hb⟩, hc.below hb, hm⟩
def PAt (w : World) (oa : Option Addr) (l : List (List OpD)) : Prop :=
 ∀ k p, l[k]? = some p → ∃ b off pa pc, oa = some ⟨b, off, none⟩ ∧ w.cell? ⟨b, off + k, none⟩ = some (.slice pa p.length pc) ∧ OAt w pa p ∧ p.length ≤ maxLen
theorem PAt.below {w w' : World} {oa : Option Addr} {l : List (List OpD)} (h : PAt w oa l) (hb : Below w.heap.size w w') : PAt w' oa l := by
 intro k p hk
 obtain ⟨b, off, pa, pc, he, h0, h1, h2⟩ := h k p hk
 exact ⟨b, off, pa, pc, he, cellB h0 hb, h1.below hb, h2⟩
def ab (lo hi : Int) (l : List Int) : Bool := l.all fun x => decide (lo ≤ x) && decide (x ≤ hi)
theorem ab_iff (lo hi : Int) (l : List Int) : ab lo hi l = true ↔ ∀ x ∈ l, lo ≤ x ∧ x ≤ hi := by
 simp [ab]
theorem ab_nth {lo hi : Int} {l : List Int} : ab lo hi l = true ↔ ∀ k, k < l.length → lo ≤ nth l k ∧ nth l k ≤ hi := by
 rw [ab_iff]
 constructor
 ·intro h k hk
  rw [nth_lt l k hk]
  exact h _ (List.getElem_mem hk)
 ·intro h x hx
  obtain ⟨k, hk, rfl⟩ := List.mem_iff_getElem.1 hx
  rw [← nth_lt l k hk]
  exact h k hk
theorem sc_cells {w : World} {B : Nat} {v0 v1 v2 v3 v4 : Value} {t : TypeId} (h : w.heap[B]? = some (.cells #[v0, v1, v2, v3, v4] t (0, 0))) : w.cell? ⟨B, 0, none⟩ = some v0 ∧ w.cell? ⟨B, 1, none⟩ = some v1 ∧ w.cell? ⟨B, 2, none⟩ = some v2 ∧ w.cell? ⟨B, 3, none⟩ = some v3 ∧ w.cell? ⟨B, 4, none⟩ = some v4 :=
 ⟨cell_of h 0, cell_of h 1, cell_of h 2, cell_of h 3, cell_of h 4⟩
def isl (ps : List (List OpD)) (p d : Nat) : Bool := ps.any (fun p => decide (32 < p.length)) || (decide (8 < ps.length) || decide (200 < p) || decide (64 < d))
theorem isl_long {ps : List (List OpD)} {p d k : Nat} {q : List OpD} (hk : ps[k]? = some q) (h : 32 < q.length) : isl ps p d = true := by
 have : ps.any (fun p => decide (32 < p.length)) = true := by
  rw [List.any_eq_true]
  exact ⟨q, List.mem_of_getElem? hk, by simpa using h⟩
 simp [isl, this]
theorem isl_short {ps : List (List OpD)} {p d : Nat} (h : ∀ (k : Nat) (q : List OpD), ps[k]? = some q → q.length ≤ 32) : isl ps p d = (decide (8 < ps.length) || decide (200 < p) || decide (64 < d)) := by
 have : ps.any (fun p => decide (32 < p.length)) = false := by
  rw [List.any_eq_false]
  intro q hq
  obtain ⟨k, hk⟩ := List.mem_iff_getElem?.1 hq
  have := h k q hk
  simp
  omega
 simp [isl, this]
def ari (n : Int) (ps : List (List OpD)) : Bool := ps.all fun p => p.all fun o => chk o n == 0
theorem ari_no {n : Int} {ps : List (List OpD)} {k j : Nat} {q : List OpD} {o : OpD} (hk : ps[k]? = some q) (hj : q[j]? = some o) (h : (chk o n == 0) = false) : ari n ps = false := by
 rw [← Bool.not_eq_true]
 intro e
 rw [ari, List.all_eq_true] at e
 have := e q (List.mem_of_getElem? hk)
 rw [List.all_eq_true] at this
 have := this o (List.mem_of_getElem? hj)
 rw [h] at this
 cases this
theorem ari_yes {n : Int} {ps : List (List OpD)} (h : ∀ (k : Nat) (q : List OpD), ps[k]? = some q → ∀ (j : Nat) (o : OpD), q[j]? = some o → chk o n = 0) : ari n ps = true := by
 rw [ari, List.all_eq_true]
 intro q hq
 rw [List.all_eq_true]
 intro o ho
 obtain ⟨k, hk⟩ := List.mem_iff_getElem?.1 hq
 obtain ⟨j, hj⟩ := List.mem_iff_getElem?.1 ho
 simp [h k q hk j o hj]
theorem ari_of {n : Int} {ps : List (List OpD)} (h : ari n ps = true) {k j : Nat} {q : List OpD} {o : OpD} (hk : ps[k]? = some q) (hj : q[j]? = some o) : chk o n = 0 := by
 cases e : chk o n == 0
 ·rw [ari_no hk hj e] at h; cases h
 ·simpa using e
end Sh
end Go.Proofs.YtblfimobiibmjaaGreat
namespace Go.Proofs.YtblfimobiibmjaaGreat
open Go.ChangeShapes Go.WideShapes Go.ChangeAt Go.RowKit
namespace Sh
open De Ba Re
structure Sc where
 T : Int
 M : Int
 ps : List (List OpD)
 pl : List Int
 dr : List Int
def schk (s : Sc) : Int :=
 bif !((decide (1 ≤ s.T) && decide (s.T ≤ 256)) && (decide (1 ≤ s.M) && decide (s.M ≤ 1048576))) then 1
 else bif isl s.ps s.pl.length s.dr.length then 2
 else bif !(!decide (s.ps.length = 0) && ari s.ps.length s.ps) then 4
 else bif !(ab (-1) 1000 s.pl && ab 0 1000 s.dr) then 4 else 0
structure SAt (w : World) (s : Sc) (pa la da : Option Addr) : Prop where
 ps : PAt w pa s.ps
 pl : At w la s.pl
 dr : At w da s.dr
 h1 : s.ps.length ≤ maxLen
 h2 : s.pl.length ≤ maxLen
 h3 : s.dr.length ≤ maxLen
theorem SAt.below {w w' : World} {s : Sc} {pa la da : Option Addr} (h : SAt w s pa la da) (hb : Below w.heap.size w w') : SAt w' s pa la da :=
 ⟨h.ps.below hb, h.pl.below hb, h.dr.below hb, h.h1, h.h2, h.h3⟩
end Sh
end Go.Proofs.YtblfimobiibmjaaGreat
namespace Go.Proofs.YtblfimobiibmjaaGreat
open Go.ChangeShapes Go.WideShapes Go.ChangeAt Go.RowKit
namespace Pe
open Ba
structure Wt where
 g : Int
 c : Int
 v : Int
def pt (o : Option Nat) : Value := .pointer (o.map fun b => ⟨b, 0, none⟩)
end Pe
end Go.Proofs.YtblfimobiibmjaaGreat
namespace Go.Proofs.YtblfimobiibmjaaGreat
open Go.ChangeShapes Go.WideShapes Go.ChangeAt Go.RowKit
namespace Pe
open Ba
end Pe
end Go.Proofs.YtblfimobiibmjaaGreat
namespace Go.Proofs.YtblfimobiibmjaaGreat
open Go.ChangeShapes Go.WideShapes Go.ChangeAt Go.RowKit
namespace Pe
open Ba
end Pe
end Go.Proofs.YtblfimobiibmjaaGreat
namespace Go.Proofs.YtblfimobiibmjaaGreat
open Go.ChangeShapes Go.WideShapes Go.ChangeAt Go.RowKit
namespace Pe
open Ba
def dr (g : Int) (l : List Wt) : List Wt := l.filter fun x => !(x.g == g)
end Pe
end Go.Proofs.YtblfimobiibmjaaGreat
namespace Go.Proofs.YtblfimobiibmjaaGreat
open Go.ChangeShapes Go.WideShapes Go.ChangeAt Go.RowKit
namespace Pe
open Ba
def wc (l : List Wt) : List Value := l.flatMap fun x => [.int .i64 x.g, .int .i64 x.c, .int .i64 x.v]
end Pe
end Go.Proofs.YtblfimobiibmjaaGreat
namespace Go.Proofs.YtblfimobiibmjaaGreat
open Go.ChangeShapes Go.WideShapes Go.ChangeAt Go.RowKit
namespace Pe
open Ba
def okb (x : Wt) : Bool := decide (0 ≤ x.g) && decide (-1 ≤ x.c)
def al (l : List Wt) (x : Wt) : List Wt := if okb x = true then (if l.length = 1024 then l else l ++ [x]) else l
end Pe
end Go.Proofs.YtblfimobiibmjaaGreat
namespace Go.Proofs.YtblfimobiibmjaaGreat
open Go.ChangeShapes Go.WideShapes Go.ChangeAt Go.RowKit
namespace Rn
open Ba
end Rn
end Go.Proofs.YtblfimobiibmjaaGreat
namespace Go.Proofs.YtblfimobiibmjaaGreat
open Go.ChangeShapes Go.WideShapes Go.ChangeAt Go.RowKit
namespace Rn
open Ba
end Rn
end Go.Proofs.YtblfimobiibmjaaGreat
namespace Go.Proofs.YtblfimobiibmjaaGreat
open Go.ChangeShapes Go.WideShapes Go.ChangeAt Go.RowKit
namespace Pi
open Ba Pe
structure St where
 size : Nat
 buf : List Int
 snd : List Wt
 rcv : List Wt
 sent : Nat
 got : Nat
 closed : Bool
structure Gt where
 rd : Bool
 ok : Bool
 wk : Bool
 v : Int
 m : Wt
def gz : Gt := ⟨false, false, false, 0, ⟨0, 0, 0⟩⟩
def sendG (st : St) : Gt :=
 if st.closed then gz else match st.rcv with
 | y :: _ => ⟨true, false, true, 0, y⟩
 | [] => if st.buf.length < st.size then ⟨true, false, false, 0, ⟨0, 0, 0⟩⟩ else gz
def sendE (st : St) : Int := if st.closed then 90 else 0
def sendS (st : St) (x : Int) : St :=
 if st.closed then st else match st.rcv with
 | _ :: t => { st with rcv := t, sent := st.sent + 1, got := st.got + 1 }
 | [] => if st.buf.length < st.size then { st with buf := st.buf ++ [x], sent := st.sent + 1 } else st
def recvG (st : St) : Gt :=
 match st.buf, st.snd with
 | [], [] => ⟨st.closed, false, false, 0, ⟨0, 0, 0⟩⟩
 | [], y :: _ => ⟨true, true, true, y.v, y⟩
 | x :: _, [] => ⟨true, true, false, x, ⟨0, 0, 0⟩⟩
 | x :: _, y :: _ => ⟨true, true, true, x, y⟩
def recvS (st : St) : St :=
 match st.buf, st.snd with
 | [], [] => st
 | [], _ :: t => { st with snd := t, sent := st.sent + 1, got := st.got + 1 }
 | _ :: b, [] => { st with buf := b, got := st.got + 1 }
 | _ :: b, y :: t => { st with buf := b ++ [y.v], snd := t, sent := st.sent + 1, got := st.got + 1 }
def room (st : St) (send : Bool) : Bool := if send then decide (st.buf.length < st.size) else decide (0 < st.buf.length)
def own (st : St) (send : Bool) : List Wt := if send then st.snd else st.rcv
def rdy (st : St) (send : Bool) : Bool := st.closed || room st send || decide (0 < (own st (!send)).length)
def rdyBut (st : St) (send : Bool) (g : Int) : Bool := st.closed || room st send || decide (0 < (dr g (own st (!send))).length)
def waitS (st : St) (send : Bool) (x : Wt) : St :=
 if rdyBut st send x.g = true then st else if send then { st with snd := al st.snd x } else { st with rcv := al st.rcv x }
def closeS (st : St) : St := if st.closed then st else { st with snd := [], rcv := [], closed := true }
def dropS (st : St) (g : Int) : St := { st with snd := dr g st.snd, rcv := dr g st.rcv }
end Pi
end Go.Proofs.YtblfimobiibmjaaGreat
namespace Go.Proofs.YtblfimobiibmjaaGreat
open Go.ChangeShapes Go.WideShapes Go.ChangeAt Go.RowKit
namespace Rp
open Ba Pe _root_.Go.Proofs.YtblfimobiibmjaaGreat.Pi
def ic (l : List Int) : List Value := l.map (Value.int .i64)
theorem own_keep {w w' : World} {base : Nat} {e : TypeId} {size : Nat} {v : Value} {n : Nat} {xs : List Value} (h : w.ownsRow base e size v n xs) (hk : ∀ g, v.ownBlock = some g → w'.heap[g]? = w.heap[g]?) : w'.ownsRow base e size v n xs := by
 refine ⟨h.1, ?_⟩
 rcases h.2 with q | ⟨g, cap, cur, q1, q2, q3, q4⟩
 ·exact .inl q
 ·exact .inr ⟨g, cap, cur, q1, q2, (hk g (by rw [q1]; rfl)).trans q3, q4⟩
def Gp (w : World) (G : Nat) (size : Nat) (vL vS vQ : Value) (cl : Bool) (sent got : Nat) : Prop :=
 w.heap[G]? = some (.cells #[.int .i64 (size : Int), vL, vS, vQ, .bool cl, .int .i64 (sent : Int), .int .i64 (got : Int)] 211 (0, 0))
structure RO (w : World) (G : Nat) (F : Nat → Prop) (vL vS vQ : Value) (st : St) : Prop where
 hp : Gp w G st.size vL vS vQ st.closed st.sent st.got
 rl : w.ownsRow 0 3 1 vL st.buf.length (ic st.buf)
 rs : w.ownsRow 0 207 3 vS st.snd.length (wc st.snd)
 rq : w.ownsRow 0 207 3 vQ st.rcv.length (wc st.rcv)
 ap : ∀ g, vS.ownBlock = some g → vQ.ownBlock ≠ some g
 fg : F G
 fl : ∀ g, vL.ownBlock = some g → F g
 fs : ∀ g, vS.ownBlock = some g → F g
 fq : ∀ g, vQ.ownBlock = some g → F g
 bd : Bd F w
 les : st.snd.length ≤ 1024
 leq : st.rcv.length ≤ 1024
 bl : st.buf.length ≤ st.size
 sz : st.size ≤ 4
def Rr (w : World) (G : Nat) (F : Nat → Prop) (st : St) : Prop := ∃ vL vS vQ, RO w G F vL vS vQ st
theorem RO.rr {w : World} {G : Nat} {F : Nat → Prop} {vL vS vQ : Value} {st : St} (h : RO w G F vL vS vQ st) : Rr w G F st := ⟨vL, vS, vQ, h⟩
theorem Rr.bd {w : World} {G : Nat} {F : Nat → Prop} {st : St} (h : Rr w G F st) : Bd F w := by
 obtain ⟨vL, vS, vQ, h⟩ := h
 exact h.bd
theorem RO.sm {w w' : World} {G : Nat} {F : Nat → Prop} {vL vS vQ : Value} {st : St} (h : RO w G F vL vS vQ st) (s : Sm F w w') : RO w' G F vL vS vQ st :=
 ⟨s.heap h.fg h.hp, own_keep h.rl fun g e => s g (h.fl g e), own_keep h.rs fun g e => s g (h.fs g e), own_keep h.rq fun g e => s g (h.fq g e), h.ap, h.fg, h.fl, h.fs, h.fq, h.bd.sm s, h.les, h.leq, h.bl, h.sz⟩
theorem Rr.sm {w w' : World} {G : Nat} {F : Nat → Prop} {st : St} (h : Rr w G F st) (s : Sm F w w') : Rr w' G F st := by
 obtain ⟨vL, vS, vQ, h⟩ := h
 exact (h.sm s).rr
end Rp
end Go.Proofs.YtblfimobiibmjaaGreat
namespace Go.Proofs.YtblfimobiibmjaaGreat
open Go.ChangeShapes Go.WideShapes Go.ChangeAt Go.RowKit
namespace Pi
open Ba Pe
def st0 (s : Nat) : St := ⟨s, [], [], [], 0, 0, false⟩
end Pi
end Go.Proofs.YtblfimobiibmjaaGreat
