import Derived.Test.YtblfimobiibmjabGreatZjAx8
import Derived.Deep.Slices
import Derived.ShutString
import Derived.ChangeOld
import Derived.Laws.AppendOwn
import Derived.Lib.AppendZeros
import Derived.Deep.RegionWith
import Derived.Maps.AppendAt
namespace Go.Proofs.YtblfimobiibmjabGreat
open Go.ChangeShapes Go.WideShapes Go.ChangeAt Go.RowKit
namespace De
open Ba Re
def cc (x : Cs) : List Value := [.bool x.send, .int .i64 x.ch, .int .i64 x.val]
end De
end Go.Proofs.YtblfimobiibmjabGreat
namespace Go.Proofs.YtblfimobiibmjabGreat
open Go.ChangeShapes Go.WideShapes Go.ChangeAt Go.RowKit
namespace De
open Ba Re
end De
end Go.Proofs.YtblfimobiibmjabGreat
namespace Go.Proofs.YtblfimobiibmjabGreat
open Go.ChangeShapes Go.WideShapes Go.ChangeAt Go.RowKit
namespace De
open Ba Re
end De
end Go.Proofs.YtblfimobiibmjabGreat
namespace Go.Proofs.YtblfimobiibmjabGreat
open Go.ChangeShapes Go.WideShapes Go.ChangeAt Go.RowKit
namespace De
open Ba Re
end De
end Go.Proofs.YtblfimobiibmjabGreat
namespace Go.Proofs.YtblfimobiibmjabGreat
open Go.ChangeShapes Go.WideShapes Go.ChangeAt Go.RowKit
namespace De
open Ba Re
section
variable {H : Type} {enc : TypeId × Value → H} {w : World}
end
end De
end Go.Proofs.YtblfimobiibmjabGreat
namespace Go.Proofs.YtblfimobiibmjabGreat
open Go.ChangeShapes Go.WideShapes Go.ChangeAt Go.RowKit
namespace De
open Ba Re
end De
end Go.Proofs.YtblfimobiibmjabGreat
namespace Go.Proofs.YtblfimobiibmjabGreat
open Go.ChangeShapes Go.WideShapes Go.ChangeAt Go.RowKit
namespace De
open Ba Re
end De
end Go.Proofs.YtblfimobiibmjabGreat
namespace Go.Proofs.YtblfimobiibmjabGreat
open Go.ChangeShapes Go.WideShapes Go.ChangeAt Go.RowKit
namespace Re
open Ba
end Re
end Go.Proofs.YtblfimobiibmjabGreat
namespace Go.Proofs.YtblfimobiibmjabGreat
open Go.ChangeShapes Go.WideShapes Go.ChangeAt Go.RowKit
namespace Re
open Ba
end Re
end Go.Proofs.YtblfimobiibmjabGreat
namespace Go.Proofs.YtblfimobiibmjabGreat
open Go.ChangeShapes Go.WideShapes Go.ChangeAt Go.RowKit
namespace Re
open Ba
end Re
end Go.Proofs.YtblfimobiibmjabGreat
namespace Go.Proofs.YtblfimobiibmjabGreat
open Go.ChangeShapes Go.WideShapes Go.ChangeAt Go.RowKit
namespace Re
open Ba
end Re
end Go.Proofs.YtblfimobiibmjabGreat
namespace Go.Proofs.YtblfimobiibmjabGreat
open Go.ChangeShapes Go.WideShapes Go.ChangeAt Go.RowKit
namespace Re
open Ba
end Re
end Go.Proofs.YtblfimobiibmjabGreat
namespace Go.Proofs.YtblfimobiibmjabGreat
open Go.ChangeShapes Go.WideShapes Go.ChangeAt Go.RowKit
namespace Sh
open De Ba Re
def OAt (w : World) (oa : Option Addr) (l : List OpD) : Prop :=
 ∀ k o, l[k]? = some o → ∃ b off ca cc, oa = some ⟨b, off, none⟩ ∧ (w.cell? ⟨b, off + k * 5, none⟩ = some (.int .i64 o.kind) ∧ w.cell? ⟨b, off + k * 5 + 1, none⟩ = some (.int .i64 o.a) ∧ w.cell? ⟨b, off + k * 5 + 2, none⟩ = some (.int .i64 o.b) ∧ w.cell? ⟨b, off + k * 5 + 3, none⟩ = some (.slice ca o.cases.length cc) ∧ w.cell? ⟨b, off + k * 5 + 4, none⟩ = some (.bool o.def_)) ∧ CAt w ca o.cases ∧ o.cases.length ≤ maxLen
theorem cellB {w w' : World} {a : Addr} {v : Value} (h : w.cell? a = some v) (hb : Below w.heap.size w w') : w'.cell? a = some v := (hb.cell (World.block_lt_of_cell? w _ h)).trans h
theorem OAt.below {w w' : World} {oa : Option Addr} {l : List OpD} (h : OAt w oa l) (hb : Below w.heap.size w w') : OAt w' oa l := by
 intro k o hk
 obtain ⟨b, off, ca, cc, he, ⟨h0, h1, h2, h3, h4⟩, hc, hm⟩ := h k o hk
 exact ⟨b, off, ca, cc, he, ⟨cellB h0 hb, cellB h1 hb, cellB h2 hb, cellB h3 hb, cellB h4 hb⟩, hc.below hb, hm⟩
def PAt (w : World) (oa : Option Addr) (l : List (List OpD)) : Prop :=
 ∀ k p, l[k]? = some p → ∃ b off pa pc, oa = some ⟨b, off, none⟩ ∧ w.cell? ⟨b, off + k, none⟩ = some (.slice pa p.length pc) ∧ OAt w pa p ∧ p.length ≤ maxLen
theorem PAt.below {w w' : World} {oa : Option Addr} {l : List (List OpD)} (h : PAt w oa l) (hb : Below w.heap.size w w') : PAt w' oa l := by
 intro k p hk
 obtain ⟨b, off, pa, pc, he, h0, h1, h2⟩ := h k p hk
 exact ⟨b, off, pa, pc, he, cellB h0 hb, h1.below hb, h2⟩
def ab (lo hi : Int) (l : List Int) : Bool := l.all fun x => decide (lo ≤ x) && decide (x ≤ hi)
theorem ab_iff (lo hi : Int) (l : List Int) : ab lo hi l = true ↔ ∀ x ∈ l, lo ≤ x ∧ x ≤ hi := by
 simp [ab]
theorem ab_nth {lo hi : Int} {l : List Int} : ab lo hi l = true ↔ ∀ k, k < l.length → lo ≤ nth l k ∧ nth l k ≤ hi := by
 rw [ab_iff]
 constructor
 ·intro h k hk
  rw [nth_lt l k hk]
  exact h _ (List.getElem_mem hk)
 ·intro h x hx
  obtain ⟨k, hk, rfl⟩ := List.mem_iff_getElem.1 hx
  rw [← nth_lt l k hk]
  exact h k hk
theorem sc_cells {w : World} {B : Nat} {v0 v1 v2 v3 v4 : Value} {t : TypeId} (h : w.heap[B]? = some (.cells #[v0, v1, v2, v3, v4] t (0, 0))) : w.cell? ⟨B, 0, none⟩ = some v0 ∧ w.cell? ⟨B, 1, none⟩ = some v1 ∧ w.cell? ⟨B, 2, none⟩ = some v2 ∧ w.cell? ⟨B, 3, none⟩ = some v3 ∧ w.cell? ⟨B, 4, none⟩ = some v4 :=
 ⟨cell_of h 0, cell_of h 1, cell_of h 2, cell_of h 3, cell_of h 4⟩
def isl (ps : List (List OpD)) (p d : Nat) : Bool := ps.any (fun p => decide (32 < p.length)) || (decide (8 < ps.length) || decide (200 < p) || decide (64 < d))
theorem isl_long {ps : List (List OpD)} {p d k : Nat} {q : List OpD} (hk : ps[k]? = some q) (h : 32 < q.length) : isl ps p d = true := by
 have : ps.any (fun p => decide (32 < p.length)) = true := by
  rw [List.any_eq_true]
  exact ⟨q, List.mem_of_getElem? hk, by simpa using h⟩
 simp [isl, this]
theorem isl_short {ps : List (List OpD)} {p d : Nat} (h : ∀ (k : Nat) (q : List OpD), ps[k]? = some q → q.length ≤ 32) : isl ps p d = (decide (8 < ps.length) || decide (200 < p) || decide (64 < d)) := by
 have : ps.any (fun p => decide (32 < p.length)) = false := by
  rw [List.any_eq_false]
  intro q hq
  obtain ⟨k, hk⟩ := List.mem_iff_getElem?.1 hq
  have := h k q hk
  simp
  omega
 simp [isl, this]
def ari (n : Int) (ps : List (List OpD)) : Bool := ps.all fun p => p.all fun o => chk o n == 0
theorem ari_no {n : Int} {ps : List (List OpD)} {k j : Nat} {q : List OpD} {o : OpD} (hk : ps[k]? = some q) (hj : q[j]? = some o) (h : (chk o n == 0) = false) : ari n ps = false := by
 rw [← Bool.not_eq_true]
 intro e
 rw [ari, List.all_eq_true] at e
 have := e q (List.mem_of_getElem? hk)
 rw [List.all_eq_true] at this
 have := this o (List.mem_of_getElem? hj)
 rw [h] at this
 cases this
theorem ari_yes {n : Int} {ps : List (List OpD)} (h : ∀ (k : Nat) (q : List OpD), ps[k]? = some q → ∀ (j : Nat) (o : OpD), q[j]? = some o → chk o n = 0) : ari n ps = true := by
 rw [ari, List.all_eq_true]
 intro q hq
 rw [List.all_eq_true]
 intro o ho
 obtain ⟨k, hk⟩ := List.mem_iff_getElem?.1 hq
 obtain ⟨j, hj⟩ := List.mem_iff_getElem?.1 ho
 simp [h k q hk j o hj]
theorem ari_of {n : Int} {ps : List (List OpD)} (h : ari n ps = true) {k j : Nat} {q : List OpD} {o : OpD} (hk : ps[k]? = some q) (hj : q[j]? = some o) : chk o n = 0 := by
 cases e : chk o n == 0
 ·rw [ari_no hk hj e] at h; cases h
 ·simpa using e
end Sh
end Go.Proofs.YtblfimobiibmjabGreat
namespace Go.Proofs.YtblfimobiibmjabGreat
open Go.ChangeShapes Go.WideShapes Go.ChangeAt Go.RowKit
namespace Sh
open De Ba Re
structure Sc where
 T : Int
 M : Int
 ps : List (List OpD)
 pl : List Int
 dr : List Int
def schk (s : Sc) : Int :=
 bif !((decide (1 ≤ s.T) && decide (s.T ≤ 256)) && (decide (1 ≤ s.M) && decide (s.M ≤ 1048576))) then 1
 else bif isl s.ps s.pl.length s.dr.length then 2
 else bif !(!decide (s.ps.length = 0) && ari s.ps.length s.ps) then 4
 else bif !(ab (-1) 1000 s.pl && ab 0 1000 s.dr) then 4 else 0
structure SAt (w : World) (s : Sc) (pa la da : Option Addr) : Prop where
 ps : PAt w pa s.ps
 pl : At w la s.pl
 dr : At w da s.dr
 h1 : s.ps.length ≤ maxLen
 h2 : s.pl.length ≤ maxLen
 h3 : s.dr.length ≤ maxLen
theorem SAt.below {w w' : World} {s : Sc} {pa la da : Option Addr} (h : SAt w s pa la da) (hb : Below w.heap.size w w') : SAt w' s pa la da :=
 ⟨h.ps.below hb, h.pl.below hb, h.dr.below hb, h.h1, h.h2, h.h3⟩
end Sh
end Go.Proofs.YtblfimobiibmjabGreat
namespace Go.Proofs.YtblfimobiibmjabGreat
open Go.ChangeShapes Go.WideShapes Go.ChangeAt Go.RowKit
namespace Pe
open Ba
structure Wt where
 g : Int
 c : Int
 v : Int
def pt (o : Option Nat) : Value := .pointer (o.map fun b => ⟨b, 0, none⟩)
end Pe
end Go.Proofs.YtblfimobiibmjabGreat
namespace Go.Proofs.YtblfimobiibmjabGreat
open Go.ChangeShapes Go.WideShapes Go.ChangeAt Go.RowKit
namespace Pe
open Ba
def wv (x : Wt) : Value := .agg #[.int .i64 x.g, .int .i64 x.c, .int .i64 x.v]
end Pe
end Go.Proofs.YtblfimobiibmjabGreat
namespace Go.Proofs.YtblfimobiibmjabGreat
open Go.ChangeShapes Go.WideShapes Go.ChangeAt Go.RowKit
namespace Pe
open Ba
end Pe
end Go.Proofs.YtblfimobiibmjabGreat
namespace Go.Proofs.YtblfimobiibmjabGreat
open Go.ChangeShapes Go.WideShapes Go.ChangeAt Go.RowKit
namespace Pe
open Ba
def dr (g : Int) (l : List Wt) : List Wt := l.filter fun x => !(x.g == g)
theorem dr_len (g : Int) (l : List Wt) : (dr g l).length ≤ l.length := List.length_filter_le _ _
end Pe
end Go.Proofs.YtblfimobiibmjabGreat
namespace Go.Proofs.YtblfimobiibmjabGreat
open Go.ChangeShapes Go.WideShapes Go.ChangeAt Go.RowKit
namespace Pe
open Ba
def wc (l : List Wt) : List Value := l.flatMap fun x => [.int .i64 x.g, .int .i64 x.c, .int .i64 x.v]
theorem wc_nil : wc [] = [] := rfl
theorem wc_cons (x : Wt) (l : List Wt) : wc (x :: l) = .int .i64 x.g :: .int .i64 x.c :: .int .i64 x.v :: wc l := rfl
theorem wc_app (l m : List Wt) : wc (l ++ m) = wc l ++ wc m := by simp [wc]
theorem wc_len (l : List Wt) : (wc l).length = l.length * 3 := by
 induction l with
 | nil => rfl
 | cons x l ih => rw [wc_cons]; simp; omega
theorem wc_at : ∀ (l : List Wt) (k : Nat) (x : Wt), l[k]? = some x → (wc l)[k * 3]? = some (.int .i64 x.g) ∧ (wc l)[k * 3 + 1]? = some (.int .i64 x.c) ∧ (wc l)[k * 3 + 2]? = some (.int .i64 x.v)
 | [], _, _, h => by simp at h
 | y :: l, 0, x, h => by simp at h; subst h; exact ⟨rfl, rfl, rfl⟩
 | y :: l, k + 1, x, h => by
   rw [wc_cons]
   have := wc_at l k x (by simpa using h)
   rw [show (k + 1) * 3 = k * 3 + 3 by omega]
   exact this
theorem wc_one (l : List Wt) : ∀ u ∈ wc l, u.oneCell' = true := by
 induction l with
 | nil => intro u hu; simp [wc_nil] at hu
 | cons x l ih =>
   intro u hu
   rw [wc_cons] at hu
   simp at hu
   rcases hu with rfl | rfl | rfl | hu
   ·rfl
   ·rfl
   ·rfl
   ·exact ih u hu
def WAt (w : World) (oa : Option Addr) (l : List Wt) : Prop :=
 ∀ k x, l[k]? = some x → ∃ b off, oa = some ⟨b, off, none⟩ ∧ w.cell? ⟨b, off + k * 3, none⟩ = some (.int .i64 x.g) ∧ w.cell? ⟨b, off + k * 3 + 1, none⟩ = some (.int .i64 x.c) ∧ w.cell? ⟨b, off + k * 3 + 2, none⟩ = some (.int .i64 x.v)
theorem WAt.nil (w : World) (oa : Option Addr) : WAt w oa [] := fun _ _ h => by simp at h
theorem WAt.below {w w' : World} {oa : Option Addr} {l : List Wt} (h : WAt w oa l) (hb : Below w.heap.size w w') : WAt w' oa l := by
 intro k x hk
 obtain ⟨b, off, e, h0, h1, h2⟩ := h k x hk
 exact ⟨b, off, e, (hb.cell (World.block_lt_of_cell? w _ h0)).trans h0, (hb.cell (World.block_lt_of_cell? w _ h1)).trans h1, (hb.cell (World.block_lt_of_cell? w _ h2)).trans h2⟩
theorem owns_wat {w : World} {base : Nat} {e : TypeId} {v : Value} {l : List Wt} (h : w.ownsRow base e 3 v l.length (wc l)) : ∃ oa c, v = .slice oa l.length c ∧ WAt w oa l ∧ l.length ≤ c ∧ ∀ a, oa = some a → base ≤ a.block := by
 rcases h.2 with ⟨rfl, h0⟩ | ⟨g, cap, cur, rfl, hbase, hg, hc, _, hcs, htk⟩
 ·refine ⟨none, 0, by rw [h0], ?_, by omega, fun a e => by cases e⟩
  obtain rfl := List.eq_nil_of_length_eq_zero h0
  exact WAt.nil _ _
 ·refine ⟨_, cap, rfl, ?_, hc, fun a e => by cases e; exact hbase⟩
  intro k x hk
  have hkl := (List.getElem?_eq_some_iff.1 hk).1
  obtain ⟨q0, q1, q2⟩ := wc_at l k x hk
  rw [← htk, List.getElem?_take_of_lt (by omega)] at q0 q1 q2
  refine ⟨g, 0, rfl, ?_, ?_, ?_⟩
  ·rw [Nat.zero_add, cell_of hg]; simpa using q0
  ·rw [Nat.zero_add, cell_of hg]; simpa using q1
  ·rw [Nat.zero_add, cell_of hg]; simpa using q2
theorem src3 (w : World) (x : Wt) (t : TypeId) : ∀ j u, (wc [x])[j]? = some u → (w.alloc (.cells #[.int .i64 x.g, .int .i64 x.c, .int .i64 x.v] t)).cell? ((⟨w.heap.size, 0, none⟩ : Addr).add j) = some u := by
 intro j u hj
 rw [Addr.add_lit, Nat.zero_add, cell_of (heap_new _ _)]
 rw [wc_cons, wc_nil] at hj
 rw [← hj]
 simp
theorem WAt.lt {w : World} {oa : Option Addr} {l : List Wt} (h : WAt w oa l) (hl : 0 < l.length) (a : Addr) (e : oa = some a) : a.block < w.heap.size := by
 obtain ⟨b, off, e2, h0, h1, h2⟩ := h 0 _ (List.getElem?_eq_getElem hl)
 rw [e] at e2
 cases e2
 exact World.block_lt_of_cell? w _ h0
end Pe
end Go.Proofs.YtblfimobiibmjabGreat
namespace Go.Proofs.YtblfimobiibmjabGreat
open Go.ChangeShapes Go.WideShapes Go.ChangeAt Go.RowKit
namespace Pe
open Ba
def okb (x : Wt) : Bool := decide (0 ≤ x.g) && decide (-1 ≤ x.c)
theorem okb_iff (x : Wt) : okb x = true ↔ 0 ≤ x.g ∧ -1 ≤ x.c := by simp [okb]
theorem okb_not (x : Wt) : okb x = false ↔ x.g < 0 ∨ x.c < -1 := by
 rw [← Bool.not_eq_true, okb_iff]
 omega
def ae (l : List Wt) (x : Wt) : Int := if okb x = true then (if l.length = 1024 then 5 else 0) else 1
def al (l : List Wt) (x : Wt) : List Wt := if okb x = true then (if l.length = 1024 then l else l ++ [x]) else l
theorem dr_take {g : Int} {l : List Wt} {k : Nat} {x : Wt} (h : l[k]? = some x) : dr g (l.take (k + 1)) = if (x.g == g) = true then dr g (l.take k) else dr g (l.take k) ++ [x] := by
 unfold dr
 rw [List.take_add_one, h, List.filter_append]
 cases hg : x.g == g <;> simp [hg]
end Pe
end Go.Proofs.YtblfimobiibmjabGreat
namespace Go.Proofs.YtblfimobiibmjabGreat
open Go.ChangeShapes Go.WideShapes Go.ChangeAt Go.RowKit
namespace Rn
open Ba
end Rn
end Go.Proofs.YtblfimobiibmjabGreat
namespace Go.Proofs.YtblfimobiibmjabGreat
open Go.ChangeShapes Go.WideShapes Go.ChangeAt Go.RowKit
namespace Rn
open Ba
end Rn
end Go.Proofs.YtblfimobiibmjabGreat
namespace Go.Proofs.YtblfimobiibmjabGreat
open Go.ChangeShapes Go.WideShapes Go.ChangeAt Go.RowKit
namespace Pi
open Ba Pe
structure St where
 size : Nat
 buf : List Int
 snd : List Wt
 rcv : List Wt
 sent : Nat
 got : Nat
 closed : Bool
structure Gt where
 rd : Bool
 ok : Bool
 wk : Bool
 v : Int
 m : Wt
def gv (g : Gt) : Value := .agg #[.bool g.rd, .bool g.ok, .bool g.wk, .int .i64 g.v, .int .i64 g.m.g, .int .i64 g.m.c, .int .i64 g.m.v]
def gz : Gt := ⟨false, false, false, 0, ⟨0, 0, 0⟩⟩
def sendG (st : St) : Gt :=
 if st.closed then gz else match st.rcv with
 | y :: _ => ⟨true, false, true, 0, y⟩
 | [] => if st.buf.length < st.size then ⟨true, false, false, 0, ⟨0, 0, 0⟩⟩ else gz
def sendE (st : St) : Int := if st.closed then 90 else 0
def sendS (st : St) (x : Int) : St :=
 if st.closed then st else match st.rcv with
 | _ :: t => { st with rcv := t, sent := st.sent + 1, got := st.got + 1 }
 | [] => if st.buf.length < st.size then { st with buf := st.buf ++ [x], sent := st.sent + 1 } else st
def recvG (st : St) : Gt :=
 match st.buf, st.snd with
 | [], [] => ⟨st.closed, false, false, 0, ⟨0, 0, 0⟩⟩
 | [], y :: _ => ⟨true, true, true, y.v, y⟩
 | x :: _, [] => ⟨true, true, false, x, ⟨0, 0, 0⟩⟩
 | x :: _, y :: _ => ⟨true, true, true, x, y⟩
def recvS (st : St) : St :=
 match st.buf, st.snd with
 | [], [] => st
 | [], _ :: t => { st with snd := t, sent := st.sent + 1, got := st.got + 1 }
 | _ :: b, [] => { st with buf := b, got := st.got + 1 }
 | _ :: b, y :: t => { st with buf := b ++ [y.v], snd := t, sent := st.sent + 1, got := st.got + 1 }
def room (st : St) (send : Bool) : Bool := if send then decide (st.buf.length < st.size) else decide (0 < st.buf.length)
def own (st : St) (send : Bool) : List Wt := if send then st.snd else st.rcv
def rdy (st : St) (send : Bool) : Bool := st.closed || room st send || decide (0 < (own st (!send)).length)
def rdyBut (st : St) (send : Bool) (g : Int) : Bool := st.closed || room st send || decide (0 < (dr g (own st (!send))).length)
def waitE (st : St) (send : Bool) (x : Wt) : Int := if rdyBut st send x.g = true then 7 else ae (own st send) x
def waitS (st : St) (send : Bool) (x : Wt) : St :=
 if rdyBut st send x.g = true then st else if send then { st with snd := al st.snd x } else { st with rcv := al st.rcv x }
def closeS (st : St) : St := if st.closed then st else { st with snd := [], rcv := [], closed := true }
def dropS (st : St) (g : Int) : St := { st with snd := dr g st.snd, rcv := dr g st.rcv }
def dropN (st : St) (g : Int) : Int := ((st.snd.length : Int) - ((dr g st.snd).length : Int)) + ((st.rcv.length : Int) - ((dr g st.rcv).length : Int))
end Pi
end Go.Proofs.YtblfimobiibmjabGreat
namespace Go.Proofs.YtblfimobiibmjabGreat
open Go.ChangeShapes Go.WideShapes Go.ChangeAt Go.RowKit
namespace Rp
open Ba Pe _root_.Go.Proofs.YtblfimobiibmjabGreat.Pi
def ic (l : List Int) : List Value := l.map (Value.int .i64)
theorem ic_len (l : List Int) : (ic l).length = l.length := by simp [ic]
theorem ic_app (l m : List Int) : ic (l ++ m) = ic l ++ ic m := by simp [ic]
theorem ic_one (l : List Int) : ∀ u ∈ ic l, u.oneCell' = true := by
 intro u hu
 obtain ⟨z, _, rfl⟩ := List.mem_map.1 hu
 rfl
theorem own_keep {w w' : World} {base : Nat} {e : TypeId} {size : Nat} {v : Value} {n : Nat} {xs : List Value} (h : w.ownsRow base e size v n xs) (hk : ∀ g, v.ownBlock = some g → w'.heap[g]? = w.heap[g]?) : w'.ownsRow base e size v n xs := by
 refine ⟨h.1, ?_⟩
 rcases h.2 with q | ⟨g, cap, cur, q1, q2, q3, q4⟩
 ·exact .inl q
 ·exact .inr ⟨g, cap, cur, q1, q2, (hk g (by rw [q1]; rfl)).trans q3, q4⟩
theorem own_base {w : World} {base base' : Nat} {e : TypeId} {size : Nat} {v : Value} {n : Nat} {xs : List Value} (h : w.ownsRow base e size v n xs) (hb : base' ≤ base) : w.ownsRow base' e size v n xs := by
 refine ⟨h.1, ?_⟩
 rcases h.2 with q | ⟨g, cap, cur, q1, q2, q3, q4⟩
 ·exact .inl q
 ·exact .inr ⟨g, cap, cur, q1, by omega, q3, q4⟩
theorem own_blk {w : World} {base : Nat} {e : TypeId} {size : Nat} {v : Value} {n : Nat} {xs : List Value} (h : w.ownsRow base e size v n xs) (g : Nat) (hg : v.ownBlock = some g) : base ≤ g ∧ ∃ cur, w.heap[g]? = some (.cells cur e (0, 0)) := by
 rcases h.2 with ⟨rfl, _⟩ | ⟨g', cap, cur, rfl, q2, q3, q4⟩
 ·simp [Value.ownBlock] at hg
 ·simp [Value.ownBlock] at hg
  subst hg
  exact ⟨q2, cur, q3⟩
theorem own_ne {w : World} {b1 b2 : Nat} {e1 e2 : TypeId} {s1 s2 : Nat} {v1 v2 : Value} {n1 n2 : Nat} {x1 x2 : List Value} (h1 : w.ownsRow b1 e1 s1 v1 n1 x1) (h2 : w.ownsRow b2 e2 s2 v2 n2 x2) (he : e1 ≠ e2) (g : Nat) (hg : v1.ownBlock = some g) : v2.ownBlock ≠ some g := by
 intro hg2
 obtain ⟨_, c1, q1⟩ := own_blk h1 g hg
 obtain ⟨_, c2, q2⟩ := own_blk h2 g hg2
 rw [q1] at q2
 cases q2
 exact he rfl
theorem own_at {w : World} {base : Nat} {v : Value} {l : List Int} (h : w.ownsRow base 3 1 v l.length (ic l)) : ∃ oa c, v = .slice oa l.length c ∧ At w oa l ∧ l.length ≤ c := by
 rcases h.2 with ⟨rfl, h0⟩ | ⟨g, cap, cur, rfl, _, hg, hc, _, hcs, htk⟩
 ·refine ⟨none, 0, by rw [h0], ?_, by omega⟩
  obtain rfl := List.eq_nil_of_length_eq_zero h0
  exact At.nil _ _
 ·refine ⟨_, cap, rfl, ?_, hc⟩
  intro k hk
  refine ⟨g, 0, rfl, ?_⟩
  have q : (ic l)[k]? = some (.int .i64 (nth l k)) := by simp [ic, nth, hk]
  rw [← htk, List.getElem?_take_of_lt (by omega)] at q
  rw [Nat.zero_add, cell_of hg]
  simpa using q
def Gp (w : World) (G : Nat) (size : Nat) (vL vS vQ : Value) (cl : Bool) (sent got : Nat) : Prop :=
 w.heap[G]? = some (.cells #[.int .i64 (size : Int), vL, vS, vQ, .bool cl, .int .i64 (sent : Int), .int .i64 (got : Int)] 127 (0, 0))
structure RO (w : World) (G : Nat) (F : Nat → Prop) (vL vS vQ : Value) (st : St) : Prop where
 hp : Gp w G st.size vL vS vQ st.closed st.sent st.got
 rl : w.ownsRow 0 3 1 vL st.buf.length (ic st.buf)
 rs : w.ownsRow 0 123 3 vS st.snd.length (wc st.snd)
 rq : w.ownsRow 0 123 3 vQ st.rcv.length (wc st.rcv)
 ap : ∀ g, vS.ownBlock = some g → vQ.ownBlock ≠ some g
 fg : F G
 fl : ∀ g, vL.ownBlock = some g → F g
 fs : ∀ g, vS.ownBlock = some g → F g
 fq : ∀ g, vQ.ownBlock = some g → F g
 bd : Bd F w
 les : st.snd.length ≤ 1024
 leq : st.rcv.length ≤ 1024
 bl : st.buf.length ≤ st.size
 sz : st.size ≤ 4
def Rr (w : World) (G : Nat) (F : Nat → Prop) (st : St) : Prop := ∃ vL vS vQ, RO w G F vL vS vQ st
theorem RO.rr {w : World} {G : Nat} {F : Nat → Prop} {vL vS vQ : Value} {st : St} (h : RO w G F vL vS vQ st) : Rr w G F st := ⟨vL, vS, vQ, h⟩
theorem Rr.bd {w : World} {G : Nat} {F : Nat → Prop} {st : St} (h : Rr w G F st) : Bd F w := by
 obtain ⟨vL, vS, vQ, h⟩ := h
 exact h.bd
theorem Rr.own {w : World} {G : Nat} {F : Nat → Prop} {st : St} (h : Rr w G F st) : F G := by
 obtain ⟨vL, vS, vQ, h⟩ := h
 exact h.fg
theorem Rr.lt {w : World} {G : Nat} {F : Nat → Prop} {st : St} (h : Rr w G F st) : G < w.heap.size := h.bd G h.own
theorem RO.sm {w w' : World} {G : Nat} {F : Nat → Prop} {vL vS vQ : Value} {st : St} (h : RO w G F vL vS vQ st) (s : Sm F w w') : RO w' G F vL vS vQ st :=
 ⟨s.heap h.fg h.hp, own_keep h.rl fun g e => s g (h.fl g e), own_keep h.rs fun g e => s g (h.fs g e), own_keep h.rq fun g e => s g (h.fq g e), h.ap, h.fg, h.fl, h.fs, h.fq, h.bd.sm s, h.les, h.leq, h.bl, h.sz⟩
theorem RO.below {w w' : World} {G : Nat} {F : Nat → Prop} {vL vS vQ : Value} {st : St} (h : RO w G F vL vS vQ st) (hb : Below w.heap.size w w') : RO w' G F vL vS vQ st := h.sm (Sm.below hb h.bd)
theorem Rr.sm {w w' : World} {G : Nat} {F : Nat → Prop} {st : St} (h : Rr w G F st) (s : Sm F w w') : Rr w' G F st := by
 obtain ⟨vL, vS, vQ, h⟩ := h
 exact (h.sm s).rr
theorem Rr.below {w w' : World} {G : Nat} {F : Nat → Prop} {st : St} (h : Rr w G F st) (hb : Below w.heap.size w w') : Rr w' G F st := h.sm (Sm.below hb h.bd)
theorem RO.put {w : World} {G : Nat} {F : Nat → Prop} {cs : Array Value} {i : Nat} {v vL vS vQ : Value} {st : St} (hG : w.heap[G]? = some (.cells cs 127 (0, 0)))
 (hc : cs.setIfInBounds i v = #[.int .i64 (st.size : Int), vL, vS, vQ, .bool st.closed, .int .i64 (st.sent : Int), .int .i64 (st.got : Int)])
 (rl : w.ownsRow 0 3 1 vL st.buf.length (ic st.buf)) (rs : w.ownsRow 0 123 3 vS st.snd.length (wc st.snd)) (rq : w.ownsRow 0 123 3 vQ st.rcv.length (wc st.rcv))
 (ap : ∀ g, vS.ownBlock = some g → vQ.ownBlock ≠ some g) (fg : F G) (fl : ∀ g, vL.ownBlock = some g → F g) (fs : ∀ g, vS.ownBlock = some g → F g) (fq : ∀ g, vQ.ownBlock = some g → F g) (bd : Bd F w)
 (les : st.snd.length ≤ 1024) (leq : st.rcv.length ≤ 1024) (bl : st.buf.length ≤ st.size) (sz : st.size ≤ 4) : RO (w.setCell ⟨G, i, none⟩ v) G F vL vS vQ st := by
 have K := (KB.refl G w).setCell i v
 have ne : ∀ {e : TypeId} {s : Nat} {u : Value} {n : Nat} {xs : List Value}, w.ownsRow 0 e s u n xs → 127 ≠ e → ∀ g, u.ownBlock = some g → g ≠ G := by
  intro e s u n xs h he g hg e2
  subst e2
  exact own_ty h hG he hg.symm
 have kp : ∀ {e : TypeId} {s : Nat} {u : Value} {n : Nat} {xs : List Value}, w.ownsRow 0 e s u n xs → 127 ≠ e → (w.setCell ⟨G, i, none⟩ v).ownsRow 0 e s u n xs := by
  intro e s u n xs h he
  refine own_keep h fun g hg => ?_
  obtain ⟨_, cur, q⟩ := own_blk h g hg
  exact K.block g (heap_lt q) (ne h he g hg)
 exact ⟨(Ba.heap_setCell_same hG v).trans (by rw [hc]), kp rl (by decide), kp rs (by decide), kp rq (by decide), ap, fg, fl, fs, fq, bd.mono K.size, les, leq, bl, sz⟩
theorem RO.setSent {w : World} {G : Nat} {F : Nat → Prop} {vL vS vQ : Value} {st : St} (h : RO w G F vL vS vQ st) (n : Nat) (x : Int) (hx : x = (n : Int)) : RO (w.setCell ⟨G, 5, none⟩ (.int .i64 x)) G F vL vS vQ { st with sent := n } := by
 subst hx
 exact RO.put h.hp rfl h.rl h.rs h.rq h.ap h.fg h.fl h.fs h.fq h.bd h.les h.leq h.bl h.sz
theorem RO.setGot {w : World} {G : Nat} {F : Nat → Prop} {vL vS vQ : Value} {st : St} (h : RO w G F vL vS vQ st) (n : Nat) (x : Int) (hx : x = (n : Int)) : RO (w.setCell ⟨G, 6, none⟩ (.int .i64 x)) G F vL vS vQ { st with got := n } := by
 subst hx
 exact RO.put h.hp rfl h.rl h.rs h.rq h.ap h.fg h.fl h.fs h.fq h.bd h.les h.leq h.bl h.sz
theorem RO.setClosed {w : World} {G : Nat} {F : Nat → Prop} {vL vS vQ : Value} {st : St} (h : RO w G F vL vS vQ st) (b : Bool) : RO (w.setCell ⟨G, 4, none⟩ (.bool b)) G F vL vS vQ { st with closed := b } :=
 RO.put h.hp rfl h.rl h.rs h.rq h.ap h.fg h.fl h.fs h.fq h.bd h.les h.leq h.bl h.sz
def Fw (F : Nat → Prop) (v : Value) : Nat → Prop := fun k => F k ∨ v.ownBlock = some k
theorem Fw.bd {w : World} {F : Nat → Prop} {base : Nat} {e : TypeId} {size : Nat} {v : Value} {n : Nat} {xs : List Value} (h : Bd F w) (r : w.ownsRow base e size v n xs) : Bd (Fw F v) w := by
 intro k hk
 rcases hk with q | q
 ·exact h k q
 ·obtain ⟨_, cur, q2⟩ := own_blk r k q
  exact heap_lt q2
theorem Fw.nw {w w' : World} {F : Nat → Prop} {e : TypeId} {size : Nat} {v : Value} {n : Nat} {xs : List Value} {N : Nat} (r : w.ownsRow N e size v n xs) (hN : w'.heap.size ≤ N) : Nw (Fw F v) F w' := by
 intro k hk
 rcases hk with q | q
 ·exact .inl q
 ·exact .inr (Nat.le_trans hN (own_blk r k q).1)
theorem RO.newL {w : World} {G N : Nat} {F : Nat → Prop} {vL vS vQ v : Value} {st : St} {l : List Int} (h : RO w G F vL vS vQ st) (r : w.ownsRow N 3 1 v l.length (ic l)) (hl : l.length ≤ st.size) : RO (w.setCell ⟨G, 1, none⟩ v) G (Fw F v) v vS vQ { st with buf := l } :=
 RO.put h.hp rfl (own_base r (Nat.zero_le _)) h.rs h.rq h.ap (.inl h.fg) (fun _ e => .inr e) (fun g e => .inl (h.fs g e)) (fun g e => .inl (h.fq g e)) (Fw.bd h.bd r) h.les h.leq hl h.sz
theorem RO.newS {w : World} {G N : Nat} {F : Nat → Prop} {vL vS vQ v : Value} {st : St} {l : List Wt} (h : RO w G F vL vS vQ st) (r : w.ownsRow N 123 3 v l.length (wc l)) (hN : ∀ k, F k → k < N) (hl : l.length ≤ 1024) : RO (w.setCell ⟨G, 2, none⟩ v) G (Fw F v) vL v vQ { st with snd := l } :=
 RO.put h.hp rfl h.rl (own_base r (Nat.zero_le _)) h.rq (fun g e e2 => by have h1 := (own_blk r g e).1; have h2 := hN g (h.fq g e2); omega) (.inl h.fg) (fun g e => .inl (h.fl g e)) (fun _ e => .inr e) (fun g e => .inl (h.fq g e)) (Fw.bd h.bd r) hl h.leq h.bl h.sz
theorem RO.newQ {w : World} {G N : Nat} {F : Nat → Prop} {vL vS vQ v : Value} {st : St} {l : List Wt} (h : RO w G F vL vS vQ st) (r : w.ownsRow N 123 3 v l.length (wc l)) (hN : ∀ k, F k → k < N) (hl : l.length ≤ 1024) : RO (w.setCell ⟨G, 3, none⟩ v) G (Fw F v) vL vS v { st with rcv := l } :=
 RO.put h.hp rfl h.rl h.rs (own_base r (Nat.zero_le _)) (fun g e e2 => by have h1 := (own_blk r g e2).1; have h2 := hN g (h.fs g e); omega) (.inl h.fg) (fun g e => .inl (h.fl g e)) (fun g e => .inl (h.fs g e)) (fun _ e => .inr e) (Fw.bd h.bd r) h.les hl h.bl h.sz
theorem KF.grown {F : Nat → Prop} {w a b : World} {o : Option Nat} (k : KF F w a) (g : a.grownBy b o) (h : ∀ x, o = some x → F x ∨ w.heap.size ≤ x) : KF F w b :=
 ⟨g.os.trans k.os, g.tape.trans k.tape, g.output.trans k.output, Nat.le_trans k.size g.size, fun x hx hr => (g.block x (Nat.lt_of_lt_of_le hx k.size) (fun e => by
   rcases h x e.symm with q | q
   ·exact hr q
   ·omega)).trans (k.block x hx hr)⟩
theorem heap_grown {a b : World} {o : Option Nat} {x : Nat} {ob : Obj} (g : a.grownBy b o) (h : a.heap[x]? = some ob) (hn : o ≠ some x) : b.heap[x]? = some ob := (g.block x (heap_lt h) (fun e => hn e.symm)).trans h
theorem RO.appL {w w' : World} {G : Nat} {F : Nat → Prop} {vL vS vQ v : Value} {st : St} {l : List Int} (h : RO w G F vL vS vQ st) (g : w.grownBy w' vL.ownBlock) (r : w'.ownsRow 0 3 1 v l.length (ic l)) (hl : l.length ≤ st.size) :
 RO (w'.setCell ⟨G, 1, none⟩ v) G (Fw F v) v vS vQ { st with buf := l } := by
 have hG : w'.heap[G]? = _ := heap_grown g h.hp (fun e => own_ty h.rl h.hp (by decide) e.symm)
 have bd' : Bd F w' := h.bd.mono g.size
 exact RO.put hG rfl r (own_keep h.rs fun k e => g.block k (h.bd k (h.fs k e)) (fun e2 => own_ne h.rs h.rl (by decide) k e e2.symm)) (own_keep h.rq fun k e => g.block k (h.bd k (h.fq k e)) (fun e2 => own_ne h.rq h.rl (by decide) k e e2.symm)) h.ap (.inl h.fg) (fun _ e => .inr e) (fun k e => .inl (h.fs k e)) (fun k e => .inl (h.fq k e)) (Fw.bd bd' r) h.les h.leq hl h.sz
theorem RO.appS {w w' : World} {G : Nat} {F : Nat → Prop} {vL vS vQ v : Value} {st : St} {l : List Wt} (h : RO w G F vL vS vQ st) (g : w.grownBy w' vS.ownBlock) (r : w'.ownsRow 0 123 3 v l.length (wc l)) (hat : v.ownBlock = vS.ownBlock ∨ v.ownBlock = some w.heap.size) (hl : l.length ≤ 1024) :
 RO (w'.setCell ⟨G, 2, none⟩ v) G (Fw F v) vL v vQ { st with snd := l } := by
 have hG : w'.heap[G]? = _ := heap_grown g h.hp (fun e => own_ty h.rs h.hp (by decide) e.symm)
 have bd' : Bd F w' := h.bd.mono g.size
 refine RO.put hG rfl (own_keep h.rl fun k e => g.block k (h.bd k (h.fl k e)) (fun e2 => own_ne h.rl h.rs (by decide) k e e2.symm)) r (own_keep h.rq fun k e => g.block k (h.bd k (h.fq k e)) (fun e2 => h.ap k e2.symm e)) ?_ (.inl h.fg) (fun k e => .inl (h.fl k e)) (fun _ e => .inr e) (fun k e => .inl (h.fq k e)) (Fw.bd bd' r) hl h.leq h.bl h.sz
 intro k e e2
 rcases hat with q | q
 ·exact h.ap k (q ▸ e) e2
 ·rw [q] at e
  cases e
  have := h.bd _ (h.fq _ e2)
  omega
theorem RO.appQ {w w' : World} {G : Nat} {F : Nat → Prop} {vL vS vQ v : Value} {st : St} {l : List Wt} (h : RO w G F vL vS vQ st) (g : w.grownBy w' vQ.ownBlock) (r : w'.ownsRow 0 123 3 v l.length (wc l)) (hat : v.ownBlock = vQ.ownBlock ∨ v.ownBlock = some w.heap.size) (hl : l.length ≤ 1024) :
 RO (w'.setCell ⟨G, 3, none⟩ v) G (Fw F v) vL vS v { st with rcv := l } := by
 have hG : w'.heap[G]? = _ := heap_grown g h.hp (fun e => own_ty h.rq h.hp (by decide) e.symm)
 have bd' : Bd F w' := h.bd.mono g.size
 refine RO.put hG rfl (own_keep h.rl fun k e => g.block k (h.bd k (h.fl k e)) (fun e2 => own_ne h.rl h.rq (by decide) k e e2.symm)) (own_keep h.rs fun k e => g.block k (h.bd k (h.fs k e)) (fun e2 => h.ap k e e2.symm)) r ?_ (.inl h.fg) (fun k e => .inl (h.fl k e)) (fun k e => .inl (h.fs k e)) (fun _ e => .inr e) (Fw.bd bd' r) h.les hl h.bl h.sz
 intro k e e2
 rcases hat with q | q
 ·exact h.ap k e (q ▸ e2)
 ·rw [q] at e2
  cases e2
  have := h.bd _ (h.fs _ e)
  omega
theorem Fw.at {F : Nat → Prop} {v v0 : Value} {w : World} {N : Nat} (hat : v.ownBlock = v0.ownBlock ∨ v.ownBlock = some N) (h0 : ∀ g, v0.ownBlock = some g → F g) (hs : w.heap.size ≤ N) : Nw (Fw F v) F w := by
 intro k hk
 rcases hk with q | q
 ·exact .inl q
 ·rcases hat with e | e
  ·exact .inl (h0 k (e ▸ q))
  ·rw [e] at q
   cases q
   exact .inr hs
end Rp
end Go.Proofs.YtblfimobiibmjabGreat
namespace Go.Proofs.YtblfimobiibmjabGreat
open Go.ChangeShapes Go.WideShapes Go.ChangeAt Go.RowKit
namespace Pi
open Ba Pe
def st0 (s : Nat) : St := ⟨s, [], [], [], 0, 0, false⟩
end Pi
end Go.Proofs.YtblfimobiibmjabGreat
namespace Go.Proofs.YtblfimobiibmjabGreat
open Go.ChangeShapes Go.WideShapes Go.ChangeAt Go.RowKit
namespace Rp
open Ba Pe _root_.Go.Proofs.YtblfimobiibmjabGreat.Pi
theorem info_rw : (Tryz.prog.info? 123).map (fun i => (i.zero, i.size, i.bytes)) = some (some (wv ⟨0, 0, 0⟩), 3, 24) := by kernel_rfl
theorem info_i : (Tryz.prog.info? 3).map (fun i => (i.zero, i.size, i.bytes)) = some (some (.int .i64 0), 1, 8) := by kernel_rfl
theorem rnew_ok (s : Nat) (w : World) (h : s ≤ 4) :
 Calls Tryz.prog 71 #[.int .i64 (s : Int)] w fun r w' => ∃ G F, r = .returned (.tuple #[.pointer (some ⟨G, 0, none⟩), .int .i64 0]) ∧ Rr w' G F (st0 s) ∧ (∀ k, F k → w.heap.size ≤ k) ∧ Below w.heap.size w w' := by
 have d1 : decide ((s : Int) < 0) = false := decide_eq_false (by omega)
 have d2 : decide (4 < (s : Int)) = false := decide_eq_false (by omega)
 go_enter Tryz.func71, Tryz.ntmps71
 go_wp2_with fail
 go_ret2
 have hs := World.size_alloc w (.cells #[.int .i64 (s : Int), .slice none 0 0, .slice none 0 0, .slice none 0 0, .bool false, .int .i64 0, .int .i64 0] 127)
 exact ⟨w.heap.size, fun k => k = w.heap.size, rfl, RO.rr ⟨heap_new _ _, World.ownsRow_nil _ _ _ _, World.ownsRow_nil _ _ _ _, World.ownsRow_nil _ _ _ _, fun g e => by simp [Value.ownBlock] at e, rfl, fun g e => by simp [Value.ownBlock] at e, fun g e => by simp [Value.ownBlock] at e, fun g e => by simp [Value.ownBlock] at e, fun k (e : k = _) => by rw [hs]; omega, Nat.zero_le _, Nat.zero_le _, Nat.zero_le _, h⟩, fun k (e : k = _) => by omega, below_alloc _ _⟩
theorem RO.read {w : World} {G : Nat} {F : Nat → Prop} {vL vS vQ : Value} {st : St} (h : RO w G F vL vS vQ st) : ∃ ol cl os cs oq cq, (vL = .slice ol st.buf.length cl ∧ At w ol st.buf ∧ st.buf.length ≤ cl) ∧ (vS = .slice os st.snd.length cs ∧ WAt w os st.snd ∧ st.snd.length ≤ cs) ∧ (vQ = .slice oq st.rcv.length cq ∧ WAt w oq st.rcv ∧ st.rcv.length ≤ cq) := by
 obtain ⟨ol, cl, h1, h2, h3⟩ := own_at h.rl
 obtain ⟨os, cs, g1, g2, g3, _⟩ := owns_wat h.rs
 obtain ⟨oq, cq, k1, k2, k3, _⟩ := owns_wat h.rq
 exact ⟨ol, cl, os, cs, oq, cq, ⟨h1, h2, h3⟩, ⟨g1, g2, g3⟩, k1, k2, k3⟩
set_option maxRecDepth 100000 in
set_option maxHeartbeats 1600000 in
theorem rready_any (G : Nat) (F : Nat → Prop) (st : St) (b : Bool) (w : World) (h : Rr w G F st) :
 Calls Tryz.prog 61 #[.pointer (some ⟨G, 0, none⟩), .bool b] w fun r w' => r = .returned (.bool (rdy st b)) ∧ Below w.heap.size w w' := by
 obtain ⟨vL, vS, vQ, h⟩ := h
 obtain ⟨ol, cl, os, cs, oq, cq, ⟨rfl, _, _⟩, ⟨rfl, _, _⟩, rfl, _, _⟩ := h.read
 have y0 : w.cell? ⟨G, 0, none⟩ = some (.int .i64 (st.size : Int)) := cell_of h.hp 0
 have y1 : w.cell? ⟨G, 1, none⟩ = some (.slice ol st.buf.length cl) := cell_of h.hp 1
 have y2 : w.cell? ⟨G, 2, none⟩ = some (.slice os st.snd.length cs) := cell_of h.hp 2
 have y3 : w.cell? ⟨G, 3, none⟩ = some (.slice oq st.rcv.length cq) := cell_of h.hp 3
 have y4 : w.cell? ⟨G, 4, none⟩ = some (.bool st.closed) := cell_of h.hp 4
 clear h
 unfold rdy room own
 cases b
 ·simp only [Bool.false_eq_true, if_false, Bool.not_false, if_true]
  rw [Bool.or_assoc, Bool.or_comm (decide (0 < st.buf.length)), ← Bool.or_assoc]
  clear y0 y3
  generalize st.snd.length = n1 at y2 ⊢
  generalize st.buf.length = n2 at y1 ⊢
  generalize st.closed = cl0 at y4 ⊢
  have e1 : decide (0 < (n1 : Int)) = decide (0 < n1) := by simp
  have e2 : decide (0 < (n2 : Int)) = decide (0 < n2) := by simp
  cases cl0
  ·by_cases h1 : 0 < n1
   ·have d1 : decide (0 < n1) = true := decide_eq_true h1
    rw [d1] at e1 ⊢
    go_enter Tryz.func61, Tryz.ntmps61
    go_wp2_with fail
    go_ret
    exact ⟨ret_bool (by simp), Below.refl _ _⟩
   ·have d1 : decide (0 < n1) = false := decide_eq_false h1
    rw [d1] at e1 ⊢
    go_enter Tryz.func61, Tryz.ntmps61
    go_wp2_with fail
    go_ret
    exact ⟨ret_bool (by simp), Below.refl _ _⟩
  ·skip
   go_enter Tryz.func61, Tryz.ntmps61
   go_wp2_with fail
   go_ret
   exact ⟨ret_bool (by simp), Below.refl _ _⟩
 ·simp only [if_true, Bool.not_true, Bool.false_eq_true, if_false]
  rw [Bool.or_assoc, Bool.or_comm (decide (st.buf.length < st.size)), ← Bool.or_assoc]
  clear y2
  generalize st.rcv.length = n1 at y3 ⊢
  generalize st.buf.length = n2 at y1 ⊢
  generalize st.size = n3 at y0 ⊢
  generalize st.closed = cl0 at y4 ⊢
  have e1 : decide (0 < (n1 : Int)) = decide (0 < n1) := by simp
  have e2 : decide ((n2 : Int) < (n3 : Int)) = decide (n2 < n3) := by simp
  cases cl0
  ·by_cases h1 : 0 < n1
   ·have d1 : decide (0 < n1) = true := decide_eq_true h1
    rw [d1] at e1 ⊢
    go_enter Tryz.func61, Tryz.ntmps61
    go_wp2_with fail
    go_quiet (fail)
    go_wp2_with fail
    go_ret
    exact ⟨ret_bool (by simp), bdrew _ _⟩
   ·have d1 : decide (0 < n1) = false := decide_eq_false h1
    rw [d1] at e1 ⊢
    go_enter Tryz.func61, Tryz.ntmps61
    go_wp2_with fail
    go_quiet (fail)
    go_wp2_with fail
    go_ret
    exact ⟨ret_bool (by simp), bdrew _ _⟩
  ·skip
   go_enter Tryz.func61, Tryz.ntmps61
   go_wp2_with fail
   go_quiet (fail)
   go_wp2_with fail
   go_ret
   exact ⟨ret_bool (by simp), bdrew _ _⟩
set_option maxRecDepth 100000 in
set_option maxHeartbeats 1600000 in
theorem rbehind_any (oa : Option Addr) (x : Wt) (l : List Wt) (c : Nat) (w : World) (hA : WAt w oa (x :: l)) (hc : l.length + 1 ≤ c) (hl : l.length ≤ 1024) :
 Calls Tryz.prog 120 #[.slice oa (l.length + 1) c] w fun r w' => ∃ ob d, r = .returned (.slice ob l.length d) ∧ w'.ownsRow w.heap.size 123 3 (.slice ob l.length d) l.length (wc l) ∧ Below w.heap.size w w' := by
 cases hi : Tryz.prog.info? 123 with
 | none => have := info_rw; rw [hi] at this; cases this
 | some i0 =>
 have hx2 := info_rw
 rw [hi] at hx2
 simp at hx2
 have INF := hide (And.intro hi hx2)
 clear hx2 hi
 obtain ⟨b, off, rfl, a0, a1, a2⟩ := hA 0 x rfl
 have HA1 := hide hA
 clear hA a0 a1 a2
 have hsrc : ∀ off' : Nat, (0 < l.length → off' = off + 3) → ∃ ob d W, (Builtin.append_ #[125, 125] 125 #[.slice none 0 0, .slice (some ⟨b, off', none⟩) l.length (c - 1)]).run Tryz.prog w = .ok (.slice ob l.length d) W ∧ W.ownsRow w.heap.size 123 3 (.slice ob l.length d) l.length (wc l) ∧ Below w.heap.size w W := by
  intro off' ho
  obtain ⟨v', W, hr, h2, h5, _⟩ := run_append_own (P := Tryz.prog) w w.heap.size 125 125 123 i0 (wv ⟨0, 0, 0⟩) 3 24 Tryz.underlying125 INF.out.1 INF.out.2.1 INF.out.2.2.1 INF.out.2.2.2 rfl (by decide) (.slice none 0 0) 0 [] (World.ownsRow_nil _ _ _ _) ⟨b, off', none⟩ l.length (c - 1) (wc l) (wc_len l) (by
   intro j u hj
   have hjl : j < l.length * 3 := by
    have := (List.getElem?_eq_some_iff.1 hj).1
    rw [wc_len] at this
    exact this
   obtain rfl := ho (by omega)
   have hq : j / 3 < l.length := by omega
   obtain ⟨y, hy⟩ : ∃ y, l[j / 3]? = some y := ⟨_, List.getElem?_eq_getElem hq⟩
   obtain ⟨b', o', e, g0, g1, g2⟩ := HA1.out (j / 3 + 1) y (by simpa using hy)
   simp at e
   obtain ⟨rfl, rfl⟩ := e
   obtain ⟨k0, k1, k2⟩ := wc_at l (j / 3) y hy
   rw [Addr.add_lit]
   have hm : j % 3 = 0 ∨ j % 3 = 1 ∨ j % 3 = 2 := by omega
   rcases hm with hm | hm | hm
   ·rw [show off + 3 + j = off + (j / 3 + 1) * 3 by omega, g0]
    rw [show j / 3 * 3 = j by omega, hj] at k0
    exact k0.symm
   ·rw [show off + 3 + j = off + (j / 3 + 1) * 3 + 1 by omega, g1]
    rw [show j / 3 * 3 + 1 = j by omega, hj] at k1
    exact k1.symm
   ·rw [show off + 3 + j = off + (j / 3 + 1) * 3 + 2 by omega, g2]
    rw [show j / 3 * 3 + 2 = j by omega, hj] at k2
    exact k2.symm) (wc_one l) (by unfold maxLen; omega) (by omega) (Nat.le_refl _)
  rw [Nat.zero_add, List.nil_append] at h2
  obtain ⟨ob, d, rfl, _, _⟩ := owns_wat h2
  exact ⟨ob, d, W, hr, h2, (Below.refl _ _).grown h5 (Nat.le_refl _) (fun x hx => by cases hx)⟩
 by_cases hc1 : c = 1
 ·obtain rfl := hc1
  obtain rfl : l = [] := List.eq_nil_of_length_eq_zero (by omega)
  obtain ⟨ob, d, W, hr, ho, hb⟩ := hsrc off (fun h => by simp at h)
  have HR : Hid ((Builtin.append_ #[125, 125] 125 #[.slice none 0 0, .slice (some ⟨b, off, none⟩) 0 0]).run Tryz.prog w = .ok (.slice ob 0 d) W) := hr
  have HO := hide ho
  have HB := hide hb
  clear ho hb hr hsrc
  go_enter Tryz.func120, Tryz.ntmps120
  go_wp2_with (at_builtin; refine Lib.wpList_append_run _ rfl _ _ 125 125 rfl _ _ rfl rfl _ _ HR.out ?_)
  go_ret
  exact ⟨ob, d, rfl, HO.out, HB.out⟩
 ·obtain ⟨ob, d, W, hr, ho, hb⟩ := hsrc (off + 3) (fun _ => rfl)
  have HR := hide hr
  have HO := hide ho
  have HB := hide hb
  clear ho hb hr hsrc
  go_enter Tryz.func120, Tryz.ntmps120
  go_wp2_with (at_builtin; refine Lib.wpList_append_run _ rfl _ _ 125 125 rfl _ _ rfl rfl _ _ HR.out ?_)
  go_ret
  exact ⟨ob, d, rfl, HO.out, HB.out⟩
set_option maxRecDepth 100000 in
set_option maxHeartbeats 1600000 in
theorem rwithout_any (oa : Option Addr) (l : List Wt) (c : Nat) (g : Int) (w : World) (hA : WAt w oa l) (hle : l.length ≤ 1024) :
 Calls Tryz.prog 85 #[.slice oa l.length c, .int .i64 g] w fun r w' => ∃ ob d, r = .returned (.slice ob (dr g l).length d) ∧ w'.ownsRow w.heap.size 123 3 (.slice ob (dr g l).length d) (dr g l).length (wc (dr g l)) ∧ Below w.heap.size w w' := by
 have HA := hide hA
 clear hA
 cases hi : Tryz.prog.info? 123 with
 | none => have := info_rw; rw [hi] at this; cases this
 | some i0 =>
 have hx2 := info_rw
 rw [hi] at hx2
 simp at hx2
 have INF := hide (And.intro hi hx2)
 clear hx2 hi
 go_enter Tryz.func85, Tryz.ntmps85
 go_wp2_with fail
 go_loopw [5, 10] (fun rv i wr => ∃ (v : Value) (k : Nat), k ≤ l.length ∧ i = .int .i64 k ∧ rv = v ∧ wr.ownsRow w.heap.size 123 3 v (dr g (l.take k)).length (wc (dr g (l.take k))) ∧ Below w.heap.size w wr) (fun _ i _ => l.length - (intOf i).toNat)
 case atStart => exact ⟨_, 0, Nat.zero_le _, rfl, rfl, World.ownsRow_nil _ _ _ _, Below.refl _ _⟩
 case round =>
  obtain ⟨v, k, hk, rfl, rfl, ho, hb⟩ := hrel
  by_cases hlt : k < l.length
  ·have hlt' : (k : Int) < (l.length : Int) := by omega
   obtain ⟨x, hx⟩ : ∃ x, l[k]? = some x := ⟨_, List.getElem?_eq_getElem hlt⟩
   obtain ⟨b, off, rfl, q0, q1, q2⟩ := HA.out.below hb k x hx
   have DT := hide (dr_take (g := g) hx)
   have hdl : (dr g (l.take k)).length ≤ k := by
    have h1 := dr_len g (l.take k)
    have h2 := List.length_take_le k l
    omega
   clear hx
   obtain ⟨X, hX⟩ : ∃ X, X = dr g (l.take k) := ⟨_, rfl⟩
   rw [← hX] at DT hdl ho
   clear hX
   have BX := below_alloc wr (.cells #[.int .i64 x.g, .int .i64 x.c, .int .i64 x.v] 123)
   cases hg : x.g == g
   ·have hg' : (x.g != g) = true := by simp [bne, hg]
    have EX : Hid (dr g (l.take (k + 1)) = X ++ [x]) := by
     show _ = _
     have := DT.out
     rw [hg] at this
     simpa using this
    have OW1 := own_below ho BX
    have HB1 := btr hb BX
    clear ho hb BX DT
    have BY := below_alloc (wr.alloc (.cells #[.int .i64 x.g, .int .i64 x.c, .int .i64 x.v] 123)) (.cells #[.int .i64 x.g, .int .i64 x.c, .int .i64 x.v] 123)
    have OW := hide (own_below OW1 BY)
    have HB := hide (btr HB1 BY)
    have SR := src3 (wr.alloc (.cells #[.int .i64 x.g, .int .i64 x.c, .int .i64 x.v] 123)) x 123
    rw [World.size_alloc] at SR
    have SRC := hide SR
    clear OW1 HB1 BY SR
    go_wp2_with (at_builtin; refine wpList_append_own _ rfl _ _ 125 rfl w.heap.size 123 i0 (wv ⟨0, 0, 0⟩) 3 24 Tryz.underlying125 INF.out.1 INF.out.2.1 INF.out.2.2.1 INF.out.2.2.2 rfl (by decide) _ _ _ rfl OW.out ⟨wr.heap.size + 1, 0, none⟩ 1 1 (wc [x]) rfl rfl ?c1 ?c2 ?c3 ?c4 ?c5 ?_)
    case c1 => first | exact SRC.out | exact fun j u hj => hj
    case c2 => exact wc_one _
    case c3 => unfold maxLen; omega
    case c4 => omega
    case c5 => first | exact HB.out.size | (have := HB.out.size; rw [World.size_alloc, World.size_alloc] at this; exact this)
    intro v' w3 ho hg3 _
    have B3 : Hid (Below w.heap.size w w3) := HB.out.grown hg3 HB.out.size (fun x hx => (OW.out.lt x hx).1)
    have O3 : Hid (w3.ownsRow w.heap.size 123 3 v' (dr g (l.take (k + 1))).length (wc (dr g (l.take (k + 1))))) := by
     show World.ownsRow _ _ _ _ _ _ _
     rw [EX.out, wc_app, List.length_append]
     exact ho
    clear ho hg3
    go_wp2_with fail
    go_roundw
    case rel =>
     first
      | exact ⟨v', k + 1, by omega, by go_num, rfl, O3.out, B3.out⟩
      | ((repeat apply Exists.intro); exact ⟨⟨v', k + 1, by omega, by go_num, rfl, O3.out, B3.out⟩, rfl⟩)
    case measure => simp [intOf]; omega
   ·have hg' : (x.g != g) = false := by simp [bne, hg]
    have EX : Hid (dr g (l.take (k + 1)) = X) := by
     show _ = _
     have := DT.out
     rw [hg] at this
     simpa using this
    have O3 : Hid ((wr.alloc (.cells #[.int .i64 x.g, .int .i64 x.c, .int .i64 x.v] 123)).ownsRow w.heap.size 123 3 u5 (dr g (l.take (k + 1))).length (wc (dr g (l.take (k + 1))))) := by
     show World.ownsRow _ _ _ _ _ _ _
     rw [EX.out]
     exact own_below ho BX
    have B3 := hide (btr hb BX)
    clear ho hb BX DT
    go_wp2_with fail
    go_roundw
    case rel =>
     first
      | exact ⟨_, k + 1, by omega, by go_num, rfl, O3.out, B3.out⟩
      | exact ⟨k + 1, by omega, by go_num, O3.out, B3.out⟩
    case measure => simp [intOf]; omega
  ·have hlt' : ¬ ((k : Int) < (l.length : Int)) := by omega
   rw [List.take_of_length_le (by omega)] at ho
   obtain ⟨oa', c', hv', _, _⟩ := owns_wat ho
   subst hv'
   have HO := hide ho
   have HB := hide hb
   clear ho hb
   go_wp2_with fail
   go_ret
   exact ⟨oa', c', rfl, HO.out, HB.out⟩
end Rp
end Go.Proofs.YtblfimobiibmjabGreat
namespace Go.Proofs.YtblfimobiibmjabGreat
open Go.ChangeShapes Go.WideShapes Go.ChangeAt Go.RowKit
namespace Pi
open Ba Pe
end Pi
end Go.Proofs.YtblfimobiibmjabGreat
namespace Go.Proofs.YtblfimobiibmjabGreat
open Go.ChangeShapes Go.WideShapes Go.ChangeAt Go.RowKit
namespace Pi
open Ba Pe
theorem got_set {w : World} {b : Nat} {x0 x1 x2 x3 x4 x5 x6 : Value} {t : TypeId} (h : w.heap[b]? = some (.cells #[x0, x1, x2, x3, x4, x5, x6] t (0, 0))) (u0 u1 u2 u3 u4 u5 u6 : Value) : (((((((w.setCell ⟨b, 0, none⟩ u0).setCell ⟨b, 1, none⟩ u1).setCell ⟨b, 2, none⟩ u2).setCell ⟨b, 3, none⟩ u3).setCell ⟨b, 4, none⟩ u4).setCell ⟨b, 5, none⟩ u5).setCell ⟨b, 6, none⟩ u6).heap[b]? = some (.cells #[u0, u1, u2, u3, u4, u5, u6] t (0, 0)) := by
 rw [Ba.heap_setCell_same (Ba.heap_setCell_same (Ba.heap_setCell_same (Ba.heap_setCell_same (Ba.heap_setCell_same (Ba.heap_setCell_same (Ba.heap_setCell_same h u0) u1) u2) u3) u4) u5) u6]
 rfl
end Pi
end Go.Proofs.YtblfimobiibmjabGreat
namespace Go.Proofs.YtblfimobiibmjabGreat
open Go.ChangeShapes Go.WideShapes Go.ChangeAt Go.RowKit
namespace Rp
open Ba Pe _root_.Go.Proofs.YtblfimobiibmjabGreat.Pi
theorem size_rgot : (Tryz.prog.info? 155).map (·.size) = some 7 := by kernel_rfl
theorem loadVar_rgot {w : World} {b : Nat} {c : Array Value} {t : TypeId} (h : w.heap[b]? = some (.cells c t (0, 0))) (hc : c.size = 7) : (loadVar 155 ⟨b, 0, none⟩).run Tryz.prog w = .ok (.agg c) w :=
 run_loadVar_row w b t _ _ _ _ h Tryz.underlying155 rfl (by rw [size_rgot, hc])
theorem rfin7 {w A : World} {G Z : Nat} {F F' : Nat → Prop} {st : St} (k : KF F w A) (i : Nw F' F w) (p : Rr A G F' st) (hz : w.heap.size ≤ Z) (hn : ¬ F' Z) (u0 u1 u2 u3 u4 u5 u6 : Value) :
 KF F w (((((((A.setCell ⟨Z, 0, none⟩ u0).setCell ⟨Z, 1, none⟩ u1).setCell ⟨Z, 2, none⟩ u2).setCell ⟨Z, 3, none⟩ u3).setCell ⟨Z, 4, none⟩ u4).setCell ⟨Z, 5, none⟩ u5).setCell ⟨Z, 6, none⟩ u6) ∧ ∃ F', Nw F' F w ∧ Rr (((((((A.setCell ⟨Z, 0, none⟩ u0).setCell ⟨Z, 1, none⟩ u1).setCell ⟨Z, 2, none⟩ u2).setCell ⟨Z, 3, none⟩ u3).setCell ⟨Z, 4, none⟩ u4).setCell ⟨Z, 5, none⟩ u5).setCell ⟨Z, 6, none⟩ u6) G F' st := by
 have K := (((((((KB.refl Z A).setCell 0 u0).setCell 1 u1).setCell 2 u2).setCell 3 u3).setCell 4 u4).setCell 5 u5).setCell 6 u6
 exact ⟨((((((k.setNew hz 0 u0).setNew hz 1 u1).setNew hz 2 u2).setNew hz 3 u3).setNew hz 4 u4).setNew hz 5 u5).setNew hz 6 u6, F', i, p.sm fun x hx => K.block x (p.bd x hx) (fun e => hn (e ▸ hx))⟩
set_option maxHeartbeats 3200000 in
theorem rsend_closed (G : Nat) (F : Nat → Prop) (st : St) (x : Int) (w : World) (h : Rr w G F st) (hc : st.closed = true) :
 Calls Tryz.prog 109 #[.pointer (some ⟨G, 0, none⟩), .int .i64 x] w fun r w' => r = .returned (.tuple #[gv gz, .int .i64 90]) ∧ KF F w w' ∧ ∃ F', Nw F' F w ∧ Rr w' G F' st := by
 have hG := h.lt
 have P1 := hide (h.below (below_alloc w (.cells #[.bool false, .bool false, .bool false, .int .i64 0, .int .i64 0, .int .i64 0, .int .i64 0] 155)))
 have Z1 := hide (heap_new w (.cells #[.bool false, .bool false, .bool false, .int .i64 0, .int .i64 0, .int .i64 0, .int .i64 0] 155))
 have NF : Hid (¬ F w.heap.size) := fun e => Nat.lt_irrefl _ (h.bd _ e)
 have y4 : (w.alloc (.cells #[.bool false, .bool false, .bool false, .int .i64 0, .int .i64 0, .int .i64 0, .int .i64 0] 155)).cell? ⟨G, 4, none⟩ = some (.bool true) := by
  obtain ⟨vL, vS, vQ, h'⟩ := P1.out
  have := cell_of h'.hp 4
  rw [hc] at this
  exact this
 clear h hc
 go_enter Tryz.func109, Tryz.ntmps109
 go_wp2_with fail
 first
  | exact bodyPost_ret (results_row2 Tryz.results109 _ _ _ _ _ rfl rfl (loadVar_rgot Z1.out rfl)) rfl ⟨rfl, KF.of (below_alloc _ _), F, Nw.refl _ _, P1.out⟩
  | exact bodyPost_ret (results_row2 Tryz.results109 _ _ _ _ _ rfl rfl (loadVar_rgot (got_set Z1.out _ _ _ _ _ _ _) rfl)) rfl ⟨rfl, rfin7 (KF.of (below_alloc _ _)) (Nw.refl _ _) P1.out (Nat.le_refl _) NF.out _ _ _ _ _ _ _⟩
set_option maxRecDepth 100000 in
set_option maxHeartbeats 3200000 in
theorem rsend_woke (G : Nat) (F : Nat → Prop) (st : St) (x : Int) (y : Wt) (t : List Wt) (w : World) (h : Rr w G F st) (hc : st.closed = false) (hr : st.rcv = y :: t) (hs : st.sent < 1000000000) (hg : st.got < 1000000000) :
 Calls Tryz.prog 109 #[.pointer (some ⟨G, 0, none⟩), .int .i64 x] w fun r w' => r = .returned (.tuple #[gv ⟨true, false, true, 0, y⟩, .int .i64 0]) ∧ KF F w w' ∧ ∃ F', Nw F' F w ∧ Rr w' G F' { st with rcv := t, sent := st.sent + 1, got := st.got + 1 } := by
 have hG := h.lt
 have NF : Hid (¬ F w.heap.size) := fun e => Nat.lt_irrefl _ (h.bd _ e)
 obtain ⟨vL, vS, vQ, h⟩ := h
 have FG := hide h.fg
 have BDF := hide h.bd
 have b1 := below_alloc w (.cells #[.bool false, .bool false, .bool false, .int .i64 0, .int .i64 0, .int .i64 0, .int .i64 0] 155)
 have b2 := below_alloc (w.alloc (.cells #[.bool false, .bool false, .bool false, .int .i64 0, .int .i64 0, .int .i64 0, .int .i64 0] 155)) (.cells #[.int .i64 y.g, .int .i64 y.c, .int .i64 y.v] 123)
 have P1 := hide (h.below b1)
 have P2 := hide (h.below (btr b1 b2))
 have Z2 := hide (heap_below (heap_new w (.cells #[.bool false, .bool false, .bool false, .int .i64 0, .int .i64 0, .int .i64 0, .int .i64 0] 155)) b2)
 have BB := hide (btr b1 b2)
 have hm2 := heap_new (w.alloc (.cells #[.bool false, .bool false, .bool false, .int .i64 0, .int .i64 0, .int .i64 0, .int .i64 0] 155)) (.cells #[.int .i64 y.g, .int .i64 y.c, .int .i64 y.v] 123)
 rw [World.size_alloc] at hm2
 have M2 := hide hm2
 obtain ⟨oq, cq, eq1, hAQ, hcq, _⟩ := owns_wat P1.out.rq
 subst eq1
 have hle := h.leq
 rw [hr] at hAQ hcq hle
 rw [List.length_cons] at hcq hle
 have y4 : (w.alloc (.cells #[.bool false, .bool false, .bool false, .int .i64 0, .int .i64 0, .int .i64 0, .int .i64 0] 155)).cell? ⟨G, 4, none⟩ = some (.bool false) := (cell_of P1.out.hp 4).trans (by rw [hc]; rfl)
 have y3 : (w.alloc (.cells #[.bool false, .bool false, .bool false, .int .i64 0, .int .i64 0, .int .i64 0, .int .i64 0] 155)).cell? ⟨G, 3, none⟩ = some (.slice oq (t.length + 1) cq) := (cell_of P1.out.hp 3).trans (by rw [hr]; rfl)
 have y3' : ((w.alloc (.cells #[.bool false, .bool false, .bool false, .int .i64 0, .int .i64 0, .int .i64 0, .int .i64 0] 155)).alloc (.cells #[.int .i64 y.g, .int .i64 y.c, .int .i64 y.v] 123)).cell? ⟨G, 3, none⟩ = some (.slice oq (t.length + 1) cq) := (cell_of P2.out.hp 3).trans (by rw [hr]; rfl)
 obtain ⟨b, off, rfl, q0, q1, q2⟩ := hAQ 0 y rfl
 rw [Nat.zero_mul, Nat.add_zero] at q0 q1 q2
 have BE := hide (rbehind_any _ y t cq _ (hAQ.below b2) hcq (by omega))
 have hpos : decide (0 < ((t.length : Int) + 1)) = true := decide_eq_true (by omega)
 have hS2 : ((w.alloc (.cells #[.bool false, .bool false, .bool false, .int .i64 0, .int .i64 0, .int .i64 0, .int .i64 0] 155)).alloc (.cells #[.int .i64 y.g, .int .i64 y.c, .int .i64 y.v] 123)).heap.size = w.heap.size + 2 := by rw [World.size_alloc, World.size_alloc]
 clear h hc hr hAQ b1 b2 hm2
 unfold gv
 go_enter Tryz.func109, Tryz.ntmps109
 go_wp2_with fail
 generalize (w.alloc (.cells #[.bool false, .bool false, .bool false, .int .i64 0, .int .i64 0, .int .i64 0, .int .i64 0] 155)).alloc (.cells #[.int .i64 y.g, .int .i64 y.c, .int .i64 y.v] 123) = W2 at P2 Z2 BB M2 BE hS2 y3' ⊢
 refine BE.out.mono ?_
 rintro r w3 ⟨ob, d, rfl, o3, b3⟩
 have P3 := hide (P2.out.below b3)
 have Z3 := hide (heap_below Z2.out b3)
 have M3 := hide (heap_below M2.out b3)
 have B3 := hide (btr BB.out b3)
 have O3 := hide o3
 have hM1 : w.heap.size + 1 ≠ G := by omega
 have hM3 : G ≠ w.heap.size := by omega
 clear o3 b3 BE BB Z2 M2 P2 P1 y3 y3' y4 q0 q1 q2
 have m0 : w3.cell? ⟨w.heap.size + 1, 0, none⟩ = some (.int .i64 y.g) := cell_of M3.out 0
 have m1 : w3.cell? ⟨w.heap.size + 1, 1, none⟩ = some (.int .i64 y.c) := cell_of M3.out 1
 have m2 : w3.cell? ⟨w.heap.size + 1, 2, none⟩ = some (.int .i64 y.v) := cell_of M3.out 2
 have g3 : w3.cell? ⟨G, 3, none⟩ = some (.slice (some ⟨b, off, none⟩) st.rcv.length cq) := cell_of P3.out.hp 3
 have g5 : w3.cell? ⟨G, 5, none⟩ = some (.int .i64 (st.sent : Int)) := cell_of P3.out.hp 5
 have g6 : w3.cell? ⟨G, 6, none⟩ = some (.int .i64 (st.got : Int)) := cell_of P3.out.hp 6
 have gf3 := frozen_of P3.out.hp 3
 have gf5 := frozen_of P3.out.hp 5
 have gf6 := frozen_of P3.out.hp 6
 have z0 : w3.cell? ⟨w.heap.size, 0, none⟩ = some (.bool false) := cell_of Z3.out 0
 have zf0 := frozen_of Z3.out 0
 have z1 : w3.cell? ⟨w.heap.size, 1, none⟩ = some (.bool false) := cell_of Z3.out 1
 have zf1 := frozen_of Z3.out 1
 have z2 : w3.cell? ⟨w.heap.size, 2, none⟩ = some (.bool false) := cell_of Z3.out 2
 have zf2 := frozen_of Z3.out 2
 have z3 : w3.cell? ⟨w.heap.size, 3, none⟩ = some (.int .i64 0) := cell_of Z3.out 3
 have zf3 := frozen_of Z3.out 3
 have z4 : w3.cell? ⟨w.heap.size, 4, none⟩ = some (.int .i64 0) := cell_of Z3.out 4
 have zf4 := frozen_of Z3.out 4
 have z5 : w3.cell? ⟨w.heap.size, 5, none⟩ = some (.int .i64 0) := cell_of Z3.out 5
 have zf5 := frozen_of Z3.out 5
 have z6 : w3.cell? ⟨w.heap.size, 6, none⟩ = some (.int .i64 0) := cell_of Z3.out 6
 have zf6 := frozen_of Z3.out 6
 go_wp2_with fail
 have R1 := ((P3.out.newQ O3.out (fun k hk => by have := BDF.out k hk; omega) (by omega)).setSent (st.sent + 1) ((st.sent : Int) + 1) (by omega)).setGot (st.got + 1) ((st.got : Int) + 1) (by omega)
 have NN : Nw (Fw F (.slice ob t.length d)) F w := Fw.nw O3.out (by omega)
 have NZ : ¬ Fw F (.slice ob t.length d) w.heap.size := by
  rintro (q | q)
  ·exact NF.out q
  ·have := (own_blk O3.out _ q).1
   omega
 exact bodyPost_ret (results_row2 Tryz.results109 _ _ _ _ _ rfl rfl (loadVar_rgot (got_set ((Below.heap_setCell _ _ _ _ (Ne.symm hM3)).trans ((Below.heap_setCell _ _ _ _ (Ne.symm hM3)).trans ((Below.heap_setCell _ _ _ _ (Ne.symm hM3)).trans Z3.out))) _ _ _ _ _ _ _) rfl)) rfl ⟨rfl, rfin7 ((((KF.of (F := F) B3.out).set FG.out 3 _).set FG.out 5 _).set FG.out 6 _) NN R1.rr (Nat.le_refl _) NZ _ _ _ _ _ _ _⟩
end Rp
end Go.Proofs.YtblfimobiibmjabGreat
