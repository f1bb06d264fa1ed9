import Derived.Test.YtblfimobiibmjaaGreatZjAh11
import Derived.Deep.RegionHeld3
import Derived.Deep.AppendLies
import Derived.Deep.RegionLaw
import Derived.Deep.RegionWith
import Derived.Laws.EntriesVeiled
import Derived.OwnWalk
import Derived.LaidEqlPtr
import Derived.Lib.AppendZeros
import Derived.Deep.Slices
import Derived.ShutString
import Derived.ChangeOld
import Derived.Maps.AppendAt
namespace Go.Proofs.YtblfimobiibmjaaGreat
open Go.ChangeShapes Go.WideShapes Go.ChangeAt Go.RowKit
namespace Rp
open Ba Pe _root_.Go.Proofs.YtblfimobiibmjaaGreat.Pi
end Rp
end Go.Proofs.YtblfimobiibmjaaGreat
namespace Go.Proofs.YtblfimobiibmjaaGreat
open Go.ChangeShapes Go.WideShapes Go.ChangeAt Go.RowKit
namespace Rp
open Ba Pe _root_.Go.Proofs.YtblfimobiibmjaaGreat.Pi
end Rp
end Go.Proofs.YtblfimobiibmjaaGreat
namespace Go.Proofs.YtblfimobiibmjaaGreat
open Go.ChangeShapes Go.WideShapes Go.ChangeAt Go.RowKit
namespace Pi
open Ba Pe
end Pi
end Go.Proofs.YtblfimobiibmjaaGreat
namespace Go.Proofs.YtblfimobiibmjaaGreat
open Go.ChangeShapes Go.WideShapes Go.ChangeAt Go.RowKit
namespace Pi
open Ba Pe
end Pi
end Go.Proofs.YtblfimobiibmjaaGreat
namespace Go.Proofs.YtblfimobiibmjaaGreat
open Go.ChangeShapes Go.WideShapes Go.ChangeAt Go.RowKit
namespace Fk
open Ba Pe _root_.Go.Proofs.YtblfimobiibmjaaGreat.Pi Rp
def PR (w : World) (oa : Option Addr) (bs : List (Option Nat)) : Prop := ∀ (i : Nat) (o : Option Nat), bs[i]? = some o → ∃ b off, oa = some ⟨b, off, none⟩ ∧ w.cell? ⟨b, off + i, none⟩ = some (pt o)
theorem PR.keep {w w' : World} {oa : Option Addr} {bs : List (Option Nat)} (h : PR w oa bs) (hk : ∀ a, oa = some a → a.block < w.heap.size → w'.heap[a.block]? = w.heap[a.block]?) : PR w' oa bs := by
 intro i o hi
 obtain ⟨b, off, e, hc⟩ := h i o hi
 refine ⟨b, off, e, ?_⟩
 have := hk _ e (World.block_lt_of_cell? w ⟨b, off + i, none⟩ hc)
 rw [← hc]
 simp only at this
 simp only [World.cell?, this]
structure Fr (Q : World → Nat → (Nat → Prop) → St → Prop) : Prop where
 sm : ∀ {w w' : World} {B : Nat} {F : Nat → Prop} {st : St}, Q w B F st → Sm F w w' → Q w' B F st
 bd : ∀ {w : World} {B : Nat} {F : Nat → Prop} {st : St}, Q w B F st → Bd F w
theorem frR : Fr Rr := ⟨fun h s => h.sm s, fun h => h.bd⟩
structure Qs (Q : World → Nat → (Nat → Prop) → St → Prop) (w : World) (oa : Option Addr) (bs : List (Option Nat)) (Fs : Nat → Nat → Prop) (sts : List (Option St)) : Prop where
 row : PR w oa bs
 len : bs.length = sts.length
 one : ∀ (i B : Nat), bs[i]? = some (some B) → ∃ st, sts[i]? = some (some st) ∧ Q w B (Fs i) st
 non : ∀ (i : Nat), bs[i]? = some none → sts[i]? = some none
 ap : ∀ i j, i ≠ j → ∀ x, Fs i x → ¬ Fs j x
 nr : ∀ a, oa = some a → ∀ i, ¬ Fs i a.block
 bd : ∀ i, Bd (Fs i) w
theorem Qs.keep {Q : World → Nat → (Nat → Prop) → St → Prop} (fr : Fr Q) {w w' : World} {oa : Option Addr} {bs : List (Option Nat)} {Fs : Nat → Nat → Prop} {sts : List (Option St)} (h : Qs Q w oa bs Fs sts) (hs : ∀ i, Sm (Fs i) w w') (hr : ∀ a, oa = some a → a.block < w.heap.size → w'.heap[a.block]? = w.heap[a.block]?) : Qs Q w' oa bs Fs sts :=
 ⟨h.row.keep hr, h.len, fun i B hi => by
   obtain ⟨st, e, q⟩ := h.one i B hi
   exact ⟨st, e, fr.sm q (hs i)⟩, h.non, h.ap, h.nr, fun i => (h.bd i).sm (hs i)⟩
def nmB {α : Type} (bs : List (Option α)) (c : Int) : Option α := if c < 0 ∨ (bs.length : Int) ≤ c then none else (bs[c.toNat]?).join
structure Ca where
 sd : Bool
 ch : Int
 v : Int
end Fk
end Go.Proofs.YtblfimobiibmjaaGreat
namespace Go.Proofs.YtblfimobiibmjaaGreat
open Go.ChangeShapes Go.WideShapes Go.ChangeAt Go.RowKit
namespace Fk
open Ba Pe _root_.Go.Proofs.YtblfimobiibmjaaGreat.Pi Rp
def ps (P : Nat → Bool) (n : Nat) : List Int := ((List.range n).filter P).map fun (i : Nat) => (i : Int)
def crdy (sts : List (Option St)) (c : Ca) : Bool := match nmB sts c.ch with | none => false | some st => rdy st c.sd
def rdyL (l : List Ca) (sts : List (Option St)) : List Int := ps (fun i => match l[i]? with | none => false | some c => crdy sts c) l.length
end Fk
end Go.Proofs.YtblfimobiibmjaaGreat
namespace Go.Proofs.YtblfimobiibmjaaGreat
open Go.ChangeShapes Go.WideShapes Go.ChangeAt Go.RowKit
namespace Fk
open Ba Pe _root_.Go.Proofs.YtblfimobiibmjaaGreat.Pi Rp
end Fk
end Go.Proofs.YtblfimobiibmjaaGreat
namespace Go.Proofs.YtblfimobiibmjaaGreat
open Go.ChangeShapes Go.WideShapes Go.ChangeAt Go.RowKit
namespace Fk
open Ba Pe _root_.Go.Proofs.YtblfimobiibmjaaGreat.Pi Rp
def tryG (sts : List (Option St)) (c : Ca) : Gt := match nmB sts c.ch with | none => gz | some st => if c.sd then sendG st else recvG st
def tryE (sts : List (Option St)) (c : Ca) : Int := match nmB sts c.ch with | none => 0 | some st => if c.sd then sendE st else 0
def tryS (sts : List (Option St)) (c : Ca) : List (Option St) := match nmB sts c.ch with | none => sts | some st => sts.set c.ch.toNat (some (if c.sd then sendS st c.v else recvS st))
def Sml (sts : List (Option St)) : Prop := ∀ (i : Nat) (st : St), sts[i]? = some (some st) → st.sent < 1000000000 ∧ st.got < 1000000000
end Fk
end Go.Proofs.YtblfimobiibmjaaGreat
namespace Go.Proofs.YtblfimobiibmjaaGreat
open Go.ChangeShapes Go.WideShapes Go.ChangeAt Go.RowKit
namespace Fk
open Ba Pe _root_.Go.Proofs.YtblfimobiibmjaaGreat.Pi Rp
def dropO (g : Int) (o : Option St) : Option St := o.map fun st => dropS st g
def leaveS (g : Int) (sts : List (Option St)) : List (Option St) := sts.map (dropO g)
end Fk
end Go.Proofs.YtblfimobiibmjaaGreat
namespace Go.Proofs.YtblfimobiibmjaaGreat
open Go.ChangeShapes Go.WideShapes Go.ChangeAt Go.RowKit
namespace Fk
open Ba Pe _root_.Go.Proofs.YtblfimobiibmjaaGreat.Pi Rp
end Fk
end Go.Proofs.YtblfimobiibmjaaGreat
namespace Go.Proofs.YtblfimobiibmjaaGreat
open Go.ChangeShapes Go.WideShapes Go.ChangeAt Go.RowKit
namespace Fk
open Ba Pe _root_.Go.Proofs.YtblfimobiibmjaaGreat.Pi Rp
def pk1 (g : Int) (p : Nat) (c : Ca) (s : List (Option St)) : List (Option St) := match nmB s c.ch with | none => s | some st => s.set c.ch.toNat (some (waitS st c.sd ⟨g, p, c.v⟩))
def pkS (g : Int) (l : List Ca) (s : List (Option St)) : Nat → List (Option St)
 | 0 => s
 | k + 1 => match l[k]? with | none => pkS g l s k | some c => pk1 g k c (pkS g l s k)
theorem nmB_at {s : List (Option St)} {c : Int} {st : St} (h : nmB s c = some st) : s[c.toNat]? = some (some st) := by
 unfold nmB at h
 split at h
 ·cases h
 ·cases e : s[c.toNat]? with
  | none => rw [e] at h; cases h
  | some o => rw [e] at h; exact congrArg some h
def pkBad (g : Int) (l : List Ca) : Bool := decide (g < 0) || decide (4 < l.length)
def pkA (g : Int) (l : List Ca) (s : List (Option St)) : List (Option St) := if pkBad g l = true then s else if 0 < (rdyL l s).length then s else pkS g l s l.length
end Fk
end Go.Proofs.YtblfimobiibmjaaGreat
namespace Go.Proofs.YtblfimobiibmjaaGreat
open Go.ChangeShapes Go.WideShapes Go.ChangeAt Go.RowKit
namespace Pk
open Ba
def ab (lo hi : Int) (l : List Int) : Bool := l.all fun x => decide (lo ≤ x) && decide (x ≤ hi)
theorem ab_iff (lo hi : Int) (l : List Int) : ab lo hi l = true ↔ ∀ x ∈ l, lo ≤ x ∧ x ≤ hi := by
 simp [ab]
theorem ab_nth {lo hi : Int} {l : List Int} : ab lo hi l = true ↔ ∀ k, k < l.length → lo ≤ nth l k ∧ nth l k ≤ hi := by
 rw [ab_iff]
 constructor
 ·intro h k hk
  rw [nth_lt l k hk]
  exact h _ (List.getElem_mem hk)
 ·intro h x hx
  obtain ⟨k, hk, rfl⟩ := List.mem_iff_getElem.1 hx
  rw [← nth_lt l k hk]
  exact h k hk
end Pk
end Go.Proofs.YtblfimobiibmjaaGreat
namespace Go.Proofs.YtblfimobiibmjaaGreat
open Go.ChangeShapes Go.WideShapes Go.ChangeAt Go.RowKit
namespace Pk
open Ba
end Pk
end Go.Proofs.YtblfimobiibmjaaGreat
namespace Go.Proofs.YtblfimobiibmjaaGreat
open Go.ChangeShapes Go.WideShapes Go.ChangeAt Go.RowKit
namespace Pk
open Ba
def ne (p d : List Int) : Int := bif decide (200 < p.length) || decide (64 < d.length) then 2 else bif ab (-1) 1000 p && ab 0 1000 d then 0 else 4
end Pk
end Go.Proofs.YtblfimobiibmjaaGreat
namespace Go.Proofs.YtblfimobiibmjaaGreat
open Go.ChangeShapes Go.WideShapes Go.ChangeAt Go.RowKit
namespace Pk
open Ba
end Pk
end Go.Proofs.YtblfimobiibmjaaGreat
namespace Go.Proofs.YtblfimobiibmjaaGreat
open Go.ChangeShapes Go.WideShapes Go.ChangeAt Go.RowKit
namespace Pk
open Ba
end Pk
end Go.Proofs.YtblfimobiibmjaaGreat
namespace Go.Proofs.YtblfimobiibmjaaGreat
open Go.ChangeShapes Go.WideShapes Go.ChangeAt Go.RowKit
namespace Pk
open Ba
def nok (p : List Int) : Bool := !p.isEmpty
def dv (d : List Int) (n : Int) : Int := if n < 1 ∨ 64 < n then 0 else if n = 1 then 0 else nth d 0 % n
def dr (d : List Int) (n : Int) : List Int := if n < 1 ∨ 64 < n ∨ n = 1 then d else d.tail
theorem dr_sub {d : List Int} {n x : Int} (h : x ∈ dr d n) : x ∈ d := by
 unfold dr at h
 split at h
 ·exact h
 ·exact List.mem_of_mem_tail h
def RCur (w : World) (R N : Nat) (p d : List Int) : Prop :=
 ∃ oa ca ob cb P D p0 d0, w.heap[R]? = some (.cells #[.slice oa (p0 : List Int).length ca, .slice ob (d0 : List Int).length cb, .int .i64 ((P : Nat) : Int), .int .i64 ((D : Nat) : Int)] 170 (0, 0)) ∧ (At w oa p0 ∧ P ≤ p0.length ∧ p = p0.drop P ∧ p0.length ≤ 200 ∧ (0 < p0.length → ∀ a, oa = some a → a.block < N)) ∧ At w ob d0 ∧ D ≤ d0.length ∧ d = d0.drop D ∧ d0.length ≤ 64 ∧ (0 < d0.length → ∀ a, ob = some a → a.block < N)
theorem RCur.kb {w w' : World} {R N Q : Nat} {p d : List Int} (h : RCur w R N p d) (k : KB Q w w') (h1 : R ≠ Q) (h2 : N ≤ Q) : RCur w' R N p d := by
 obtain ⟨oa, ca, ob, cb, P, D, p0, d0, q0, ⟨q1, q2, q3, q4, q5⟩, q6, q7, q8, q9, q10⟩ := h
 exact ⟨oa, ca, ob, cb, P, D, p0, d0, k.heap q0 h1, ⟨k.at' q1 fun h a e => by have := q5 h a e; omega, q2, q3, q4, q5⟩, k.at' q6 fun h a e => by have := q10 h a e; omega, q7, q8, q9, q10⟩
theorem RCur.below {w w' : World} {R N : Nat} {p d : List Int} (h : RCur w R N p d) (hb : Below w.heap.size w w') : RCur w' R N p d := by
 obtain ⟨oa, ca, ob, cb, P, D, p0, d0, q0, ⟨q1, q2, q3, q4, q5⟩, q6, q7, q8, q9, q10⟩ := h
 exact ⟨oa, ca, ob, cb, P, D, p0, d0, heap_below q0 hb, ⟨q1.below hb, q2, q3, q4, q5⟩, q6.below hb, q7, q8, q9, q10⟩
theorem nth_drop (l : List Int) (P : Nat) : nth (l.drop P) 0 = nth l P := by simp [nth]
theorem nok_drop (l : List Int) (P : Nat) : nok (l.drop P) = decide (P < l.length) := by
 unfold nok
 cases h : l.drop P with
 | nil =>
   rw [List.drop_eq_nil_iff] at h
   simp [h]
 | cons x t =>
   have := congrArg List.length h
   simp at this
   simp
   omega
set_option maxHeartbeats 1600000 in
theorem rnext_any (R N : Nat) (p d : List Int) (w : World) (h : RCur w R N p d) (hN : N ≤ R) :
 Calls Tryz.prog 103 #[.pointer (some ⟨R, 0, none⟩)] w fun r w' => r = .returned (.tuple #[.int .i64 (nth p 0), .bool (nok p)]) ∧ RCur w' R N p.tail d ∧ KB R w w' := by
 obtain ⟨oa, ca, ob, cb, P, D, p0, d0, q0, ⟨q1, q2, q3, q4, q5⟩, q6, q7, q8, q9, q10⟩ := h
 subst q3 q8
 rw [nth_drop, nok_drop]
 have c0 := cell_of q0 0
 have c2 := cell_of q0 2
 have f2 := frozen_of q0 2
 simp at c0 c2
 have H := hide q0
 have H1 := hide q1
 have H6 := hide q6
 by_cases hP : P < p0.length
 ·have hP' : decide ((p0.length : Int) ≤ (P : Int)) = false := by simp; omega
  have hPd : decide (P < p0.length) = true := by simp; omega
  rw [hPd]
  obtain ⟨b, off, rfl, hc⟩ := q1 P hP
  have hb : b < N := q5 (by omega) _ rfl
  have hc' : (w.setCell ⟨R, 2, none⟩ (.int .i64 ((P : Int) + 1))).cell? ⟨b, off + P, none⟩ = some (.int .i64 (nth p0 P)) := ((KB.refl R w).setCell 2 _).cell hc (by omega)
  have hlt' : (P : Int) < (p0.length : Int) := by omega
  have X := hide (Ba.heap_setCell_same q0 (i := 2) (.int .i64 ((P : Int) + 1)))
  have x0 := cell_of X.out 0
  have x2 := cell_of X.out 2
  simp at x0 x2
  clear q0 q1 q6
  go_enter Tryz.func103, Tryz.ntmps103
  go_wp2_with fail
  go_quiet (fail)
  go_wp2_with fail
  go_quiet (fail)
  go_wp2_with fail
  go_ret2
  refine ⟨rfl, ?_, by first | exact ((KB.refl R w).setCell 2 _).trans (KB.of (bdrew _ _)) | exact ((KB.of (bdrew _ _)).setCell 2 _).trans (KB.of (bdrew _ _))⟩
  refine RCur.below (w := w.setCell ⟨R, 2, none⟩ (.int .i64 ((P : Int) + 1))) ⟨some ⟨b, off, none⟩, ca, ob, cb, P + 1, D, p0, d0, ?_, ⟨((KB.refl R w).setCell 2 _).at' H1.out fun h a e => by have := q5 h a e; omega, by omega, by simp, q4, q5⟩, ((KB.refl R w).setCell 2 _).at' H6.out fun h a e => by have := q10 h a e; omega, q7, rfl, q9, q10⟩ (by first | exact bdrew _ _ | exact Below.refl _ _ | exact ⟨rfl, rfl, rfl, Nat.le_refl _, fun _ _ => rfl⟩)
  rw [X.out]
  rfl
 ·have hP' : decide ((p0.length : Int) ≤ (P : Int)) = true := by simp; omega
  have hPd : decide (P < p0.length) = false := by simp; omega
  rw [hPd, nth_out p0 P (by omega)]
  clear q0 q1 q6
  go_enter Tryz.func103, Tryz.ntmps103
  go_wp2_with fail
  go_quiet (fail)
  go_wp2_with fail
  go_ret2
  refine ⟨rfl, RCur.below (w := w) ⟨oa, ca, ob, cb, P, D, p0, d0, H.out, ⟨H1.out, q2, ?_, q4, q5⟩, H6.out, q7, rfl, q9, q10⟩ (bdrew _ _), KB.of (bdrew _ _)⟩
  rw [List.drop_eq_nil_of_le (by omega)]
  rfl
end Pk
end Go.Proofs.YtblfimobiibmjaaGreat
namespace Go.Proofs.YtblfimobiibmjaaGreat
open Go.ChangeShapes Go.WideShapes Go.ChangeAt Go.RowKit
namespace Lk
open Ba Pk
end Lk
end Go.Proofs.YtblfimobiibmjaaGreat
namespace Go.Proofs.YtblfimobiibmjaaGreat
open Go.ChangeShapes Go.WideShapes Go.ChangeAt Go.RowKit
namespace Ba
section
variable {H : Type} {enc : TypeId × Value → H} {w : World}
end
end Ba
end Go.Proofs.YtblfimobiibmjaaGreat
namespace Go.Proofs.YtblfimobiibmjaaGreat
open Go.ChangeShapes Go.WideShapes Go.ChangeAt Go.RowKit
namespace Ba
section
variable {H : Type} {enc : TypeId × Value → H} {w : World}
end
end Ba
end Go.Proofs.YtblfimobiibmjaaGreat
namespace Go.Proofs.YtblfimobiibmjaaGreat
open Go.ChangeShapes Go.WideShapes Go.ChangeAt Go.RowKit
namespace Pk
open Ba
def ofx (p : Int) (l : List Int) : Int := if p < 0 then 0 else if l.length = 0 then 0 else nth l (p.toNat % l.length)
end Pk
end Go.Proofs.YtblfimobiibmjaaGreat
namespace Go.Proofs.YtblfimobiibmjaaGreat
open Go.ChangeShapes Go.WideShapes Go.ChangeAt Go.RowKit
namespace Lo
open Ba
abbrev Ev := En.Ev
abbrev Mb := Cr.Mb
abbrev OpD := De.OpD
abbrev Ca := Fk.Ca
abbrev St := _root_.Go.Proofs.YtblfimobiibmjaaGreat.Pi.St
abbrev Gt := _root_.Go.Proofs.YtblfimobiibmjaaGreat.Pi.Gt
abbrev Wt := Pe.Wt
structure Lm where
 ps : List (List OpD)
 p : List Int
 d : List Int
 cr : List Mb
 sts : List (Option St)
 nm : List Int
 md : Int
 tr : List Ev
 pk : Bool
def cav (c : De.Cs) : Ca := ⟨c.send, c.ch, c.val⟩
def bareE (k g : Int) : Ev := ⟨k, g, -1, -1, -1, -1, false, false⟩
def tellS (s : Lm) (e : Ev) : Lm := { s with tr := s.tr ++ [e] }
def goS (s : Lm) (e : Ev) : Lm := tellS { s with cr := Cr.chL s.cr e.g 0 0 1 } e
def waitsS (s : Lm) (e : Ev) : Lm := tellS { s with cr := Cr.chL s.cr e.g 0 1 0 } e
def wakesS (s : Lm) (e : Ev) : Lm := tellS { s with sts := Fk.leaveS e.g s.sts, cr := Cr.chL s.cr e.g 1 0 1 } e
def opensS (s : Lm) (name : Int) (size : Int) : Lm := { s with sts := s.sts.set name.toNat (some (_root_.Go.Proofs.YtblfimobiibmjaaGreat.Pi.st0 size.toNat)), nm := s.nm.set name.toNat s.md, md := s.md + 1 }
def num (s : Lm) (c : Int) : Int := nth s.nm c.toNat
def tryV (s : Lm) (g at_ : Int) (c : Ca) (t : Gt) : Ev := ⟨if c.sd then 3 else 4, g, num s c.ch, at_, if c.sd then c.v else t.v, if t.wk then t.m.g else -1, c.sd, t.ok⟩
def servV (e : Ev) (t : Gt) : Ev := ⟨7, t.m.g, e.c, t.m.c, if e.s then e.v else t.m.v, e.g, !e.s, true⟩
structure Tr3 where
 s : Lm
 done : Bool
 fine : Bool
def tryF (s : Lm) (g at_ : Int) (c : Ca) : Tr3 :=
 if Fk.tryE s.sts c ≠ 0 ∨ (Fk.tryG s.sts c).rd = false then ⟨{ s with sts := Fk.tryS s.sts c }, false, Fk.tryE s.sts c == 0⟩
 else if (Fk.tryG s.sts c).wk then ⟨wakesS (goS { s with sts := Fk.tryS s.sts c } (tryV s g at_ c (Fk.tryG s.sts c))) (servV (tryV s g at_ c (Fk.tryG s.sts c)) (Fk.tryG s.sts c)), true, true⟩
 else ⟨goS { s with sts := Fk.tryS s.sts c } (tryV s g at_ c (Fk.tryG s.sts c)), true, true⟩
def waitN (sts : List (Option St)) (c : Ca) (g : Int) : List (Option St) := match Fk.nmB sts c.ch with
 | none => sts
 | some st => sts.set c.ch.toNat (some (_root_.Go.Proofs.YtblfimobiibmjaaGreat.Pi.waitS st c.sd ⟨g, -1, c.v⟩))
structure Tr2 where
 s : Lm
 fine : Bool
def aloneF (s : Lm) (g : Int) (c : Ca) : Tr2 :=
 if (tryF s g (-1) c).done || !(tryF s g (-1) c).fine then ⟨(tryF s g (-1) c).s, (tryF s g (-1) c).fine⟩
 else ⟨waitsS { (tryF s g (-1) c).s with sts := waitN (tryF s g (-1) c).s.sts c g } ⟨6, g, num s c.ch, -1, c.v, -1, c.sd, false⟩, true⟩
def cas (o : OpD) : List Ca := o.cases.map cav
def caseAt (o : OpD) (i : Int) : Ca := ((cas o)[i.toNat]?).getD ⟨false, 0, 0⟩
def chooseF (s : Lm) (g : Int) (o : OpD) : Tr2 :=
 if 0 < (Fk.rdyL (cas o) s.sts).length then
  ⟨(tryF { s with d := Pk.dr s.d (Fk.rdyL (cas o) s.sts).length } g (nth (Fk.rdyL (cas o) s.sts) (Pk.dv s.d (Fk.rdyL (cas o) s.sts).length).toNat) (caseAt o (nth (Fk.rdyL (cas o) s.sts) (Pk.dv s.d (Fk.rdyL (cas o) s.sts).length).toNat))).s,
   (tryF { s with d := Pk.dr s.d (Fk.rdyL (cas o) s.sts).length } g (nth (Fk.rdyL (cas o) s.sts) (Pk.dv s.d (Fk.rdyL (cas o) s.sts).length).toNat) (caseAt o (nth (Fk.rdyL (cas o) s.sts) (Pk.dv s.d (Fk.rdyL (cas o) s.sts).length).toNat))).fine⟩
 else if o.def_ then ⟨goS s (bareE 8 g), true⟩
 else ⟨waitsS { s with sts := Fk.pkA g (cas o) s.sts } ⟨6, g, -1, o.cases.length, 0, -1, false, false⟩, true⟩
def parked (s : Lm) (g : Int) : Bool := (Cr.one0 (Cr.gt s.cr g)).s == 1
def wakeAll (g c : Int) : Lm → List Wt → Lm
 | s, [] => s
 | s, x :: l => wakeAll g c (if parked s x.g then wakesS s ⟨7, x.g, c, x.c, 0, g, false, false⟩ else s) l
def first (s : Lm) : List Wt → Int
 | [] => -1
 | x :: l => if parked s x.g then x.g else first s l
structure TrW where
 s : Lm
 who : Int
def closesF (s : Lm) (g name : Int) : TrW := match Fk.nmB s.sts name with
 | none => ⟨s, g⟩
 | some st => if st.closed then ⟨s, g⟩ else
   ⟨wakeAll g (num s name) (goS { s with sts := s.sts.set name.toNat (some (_root_.Go.Proofs.YtblfimobiibmjaaGreat.Pi.closeS st)) } ⟨5, g, num s name, -1, -1, -1, false, false⟩) st.rcv,
    first (wakeAll g (num s name) (goS { s with sts := s.sts.set name.toNat (some (_root_.Go.Proofs.YtblfimobiibmjaaGreat.Pi.closeS st)) } ⟨5, g, num s name, -1, -1, -1, false, false⟩) st.rcv) st.snd⟩
def panicS (s : Lm) (who : Int) : Lm := tellS { s with pk := true } (bareE 12 who)
def doF (s : Lm) (g : Int) (o : OpD) : Lm :=
 if o.kind = 1 then goS { s with cr := Cr.spL s.cr o.a } ⟨1, g, -1, -1, o.a, Cr.spV s.cr o.a, false, false⟩
 else if o.kind = 2 then goS (opensS s o.a o.b) ⟨2, g, s.md, -1, o.b, -1, false, false⟩
 else if o.kind = 7 then goS s ⟨9, g, -1, -1, o.a, -1, false, false⟩
 else if o.kind = 8 then goS s ⟨10, g, -1, -1, o.a, -1, false, false⟩
 else if o.kind = 9 then tellS { s with cr := Cr.chL s.cr g 0 2 0 } (bareE 11 g)
 else if o.kind = 3 then (if (aloneF s g ⟨true, o.a, o.b⟩).fine then (aloneF s g ⟨true, o.a, o.b⟩).s else panicS (aloneF s g ⟨true, o.a, o.b⟩).s g)
 else if o.kind = 4 then (aloneF s g ⟨false, o.a, 0⟩).s
 else if o.kind = 5 then (if (closesF s g o.a).who = -1 then (closesF s g o.a).s else panicS (closesF s g o.a).s (closesF s g o.a).who)
 else if o.kind = 6 then (if (chooseF s g o).fine then (chooseF s g o).s else panicS (chooseF s g o).s g)
 else s
def verd (s : Lm) : Int := if s.pk then 3 else if Cr.ovr s.cr ≠ 0 then Cr.ovr s.cr else if s.p.length = 0 then 4 else 0
def exitO : OpD := ⟨9, 0, 0, [], false⟩
def opOf (s : Lm) (g : Int) : OpD := (((s.ps[(Cr.one0 (Cr.gt s.cr g)).p.toNat]?).getD [])[(Cr.one0 (Cr.gt s.cr g)).q.toNat]?).getD exitO
def whoN (s : Lm) : Int := Pk.ofx (nth s.p 0) (Cr.abl s.cr)
def stepF (s : Lm) : Lm :=
 if verd s ≠ 0 then s
 else if nth s.p 0 = -1 then tellS { s with p := s.p.tail } (bareE 13 (-1))
 else doF { s with p := s.p.tail } (whoN s) (opOf s (whoN s))
def newS (sc : Sh.Sc) : Lm := ⟨sc.ps, sc.pl, sc.dr, [⟨0, 0, 0⟩], List.replicate 8 none, List.replicate 8 (-1), 0, [], false⟩
def stepsF : Nat → Lm → Lm
 | 0, s => s
 | n + 1, s => stepsF n (stepF s)
end Lo
end Go.Proofs.YtblfimobiibmjaaGreat
namespace Go.Proofs.YtblfimobiibmjaaGreat
open Go.ChangeShapes Go.WideShapes Go.ChangeAt Go.RowKit
namespace Fk
open Ba Pe _root_.Go.Proofs.YtblfimobiibmjaaGreat.Pi Rp
end Fk
end Go.Proofs.YtblfimobiibmjaaGreat
namespace Go.Proofs.YtblfimobiibmjaaGreat
open Go.ChangeShapes Go.WideShapes Go.ChangeAt Go.RowKit
namespace Lo
open Ba
structure Ch (K : Nat → Prop) (col col' : Nat → Nat) (w w' : World) : Prop where
 os : w'.os = w.os
 tape : w'.tape = w.tape
 output : w'.output = w.output
 size : w.heap.size ≤ w'.heap.size
 block : ∀ x, x < w.heap.size → ¬ K (col x) → w'.heap[x]? = w.heap[x]?
 old : ∀ x, x < w.heap.size → col' x = col x
theorem ext_ex (w : World) (col : Nat → Nat) (F : Nat → Prop) (k : Nat) : ∃ col' : Nat → Nat, (∀ x, x < w.heap.size → col' x = col x) ∧ (∀ x, w.heap.size ≤ x → F x → col' x = k) ∧ (∀ x, w.heap.size ≤ x → ¬ F x → col' x = 7) := by
 classical
 refine ⟨fun x => if x < w.heap.size then col x else if F x then k else 7, fun x hx => by simp [hx], fun x hx hf => ?_, fun x hx hf => ?_⟩
 ·simp [Nat.not_lt.2 hx, hf]
 ·simp [Nat.not_lt.2 hx, hf]
def ec (l : List Ev) : List Value := l.flatMap fun e => (En.evc e).toList
theorem ec_app (l m : List Ev) : ec (l ++ m) = ec l ++ ec m := by simp [ec]
theorem ec_one (l : List Ev) : ∀ u ∈ ec l, u.oneCell' = true := by
 intro u hu
 simp only [ec, List.mem_flatMap] at hu
 obtain ⟨e, _, hu⟩ := hu
 simp [En.evc] at hu
 rcases hu with rfl | rfl | rfl | rfl | rfl | rfl | rfl | rfl <;> rfl
theorem ec_len (l : List Ev) : (ec l).length = l.length * 8 := by
 induction l with
 | nil => rfl
 | cons e l ih => simp [ec, En.evc] at ih ⊢; omega
section
variable {w w' : World} {col col' : Nat → Nat} {L N C B X : Nat} {FB : Nat → Prop} {pa : Option Addr} {pc : Nat} {bs : List (Option Nat)} {Fs : Nat → Nat → Prop} {ta : Option Addr} {tc : Nat} {s : Lm} {K : Nat → Prop}
theorem ch_below (K : Nat → Prop) (hb : Below w.heap.size w w') (ho : ∀ x, x < w.heap.size → col' x = col x) : Ch K col col' w w' := ⟨hb.os, hb.tape, hb.output, hb.size, fun x hx _ => hb.block x hx, ho⟩
end
end Lo
end Go.Proofs.YtblfimobiibmjaaGreat
namespace Go.Proofs.YtblfimobiibmjaaGreat
open Go.ChangeShapes Go.WideShapes Go.ChangeAt Go.RowKit
namespace Lo
open Ba
theorem info_ev : (Tryz.prog.info? 50).map (fun i => (i.zero, i.size, i.bytes)) = some (some (.agg #[.int .i64 0, .int .i64 0, .int .i64 0, .int .i64 0, .int .i64 0, .int .i64 0, .bool false, .bool false]), 8, 56) := by kernel_rfl
section
variable {w u w2 : World} {col : Nat → Nat} {L N C B X : Nat} {FB : Nat → Prop} {pa : Option Addr} {pc : Nat} {bs : List (Option Nat)} {Fs : Nat → Nat → Prop} {ta : Option Addr} {tc : Nat} {s : Lm}
end
theorem src8 (w : World) (e : Ev) (t : TypeId) : ∀ j u, (ec [e])[j]? = some u → ((w.alloc (.cells #[.int .i64 e.k, .int .i64 e.g, .int .i64 e.c, .int .i64 e.a, .int .i64 e.v, .int .i64 e.m, .bool e.s, .bool e.o] t)).alloc (.cells #[.int .i64 e.k, .int .i64 e.g, .int .i64 e.c, .int .i64 e.a, .int .i64 e.v, .int .i64 e.m, .bool e.s, .bool e.o] t)).drew.cell? ((⟨w.heap.size + 1, 0, none⟩ : Addr).add j) = some u := by
 intro j u hj
 have hn := En.heap_new2 w (.cells #[.int .i64 e.k, .int .i64 e.g, .int .i64 e.c, .int .i64 e.a, .int .i64 e.v, .int .i64 e.m, .bool e.s, .bool e.o] t) (.cells #[.int .i64 e.k, .int .i64 e.g, .int .i64 e.c, .int .i64 e.a, .int .i64 e.v, .int .i64 e.m, .bool e.s, .bool e.o] t)
 rw [Addr.add_lit, Nat.zero_add, cell_of (heap_below hn (bdrew1 _)), ← hj]
 simp [ec, En.evc]
theorem own_sl {w : World} {base : Nat} {e : TypeId} {v : Value} {n : Nat} {xs : List Value} (h : w.ownsRow base e 8 v n xs) : ∃ oa c, v = .slice oa n c := by
 rcases h.2 with ⟨rfl, rfl⟩ | ⟨b, cap, cur, rfl, _⟩
 ·exact ⟨none, 0, rfl⟩
 ·exact ⟨_, _, rfl⟩
end Lo
end Go.Proofs.YtblfimobiibmjaaGreat
