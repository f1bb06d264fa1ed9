import Derived.Test.YtkkgbeaaekmhfaaGreatZjGl1
import Derived.Deep.RegionHeld3
import Derived.Deep.DeepCutAuto
import Derived.Deep.RegionLaw
import Derived.Maps.AppendAt
import Derived.OwnWalk
import Derived.Lib.AppendZeros
import Derived.Lib.Slices
import Derived.Maps.RangeWalk
import Derived.Maps.Views
import Derived.Deep.WholeRow
namespace Go.Proofs.YtkkgbeaaekmhfaaGreat
namespace Gu
open En
def there (p : List Ev) : Nat := 1 + p.countP (fun x => decide (x.k = 1))
def exitF (g : Int) (p : List Ev) : Bool := p.any fun x => decide (x.g = g) && decide (x.k = 11)
def wstep (g : Int) (b : Bool) (x : Ev) : Bool := if x.g ≠ g then b else if x.k = 6 then true else if x.k = 7 then false else b
def waitsF (g : Int) (p : List Ev) : Bool := p.foldl (wstep g) false
def panF (p : List Ev) : Bool := p.any fun x => decide (x.k = 12)
def crew (p : List Ev) (e : Ev) : Bool :=
 !panF p && (decide (e.k = 13) || (decide (e.g < there p) && !exitF e.g p && (decide (e.k = 12) || waitsF e.g p == decide (e.k = 7)) && (decide (e.k ≠ 1) || decide (e.m = there p))))
theorem there_app (p : List Ev) (e : Ev) : there (p ++ [e]) = there p + if e.k = 1 then 1 else 0 := by
 simp only [there, List.countP_append, List.countP_cons, List.countP_nil, decide_eq_true_eq]; omega
theorem exit_app (g : Int) (p : List Ev) (e : Ev) : exitF g (p ++ [e]) = (exitF g p || (decide (e.g = g) && decide (e.k = 11))) := by
 simp [exitF]
theorem waits_app (g : Int) (p : List Ev) (e : Ev) : waitsF g (p ++ [e]) = wstep g (waitsF g p) e := by
 simp [waitsF]
theorem pan_app (p : List Ev) (e : Ev) : panF (p ++ [e]) = (panF p || decide (e.k = 12)) := by simp [panF]
def may (t k : Int) : Bool := if k = 7 then decide (t = 1) else if k = 12 then decide (t ≠ 2) else decide (t = 0)
def r2 (st : List Int) (pn : Bool) (e : Ev) : Option (List Int × Bool) :=
 if pn then none
 else if e.k = 13 then some (st, pn)
 else if (st.length : Int) ≤ e.g then none
 else if may (st.getD e.g.toNat 0) e.k = false then none
 else if e.k = 1 then if e.m ≠ st.length then none else some (st ++ [0], pn)
 else if e.k = 6 then some (st.set e.g.toNat 1, pn)
 else if e.k = 7 then some (st.set e.g.toNat 0, pn)
 else if e.k = 11 then some (st.set e.g.toNat 2, pn)
 else if e.k = 12 then some (st, true)
 else some (st, pn)
def is (g : Int) (p : List Ev) : Int := if exitF g p then 2 else if waitsF g p then 1 else 0
structure IC (p : List Ev) (st : List Int) (pn : Bool) : Prop where
 len : st.length = there p
 at_ : ∀ g : Nat, g < st.length → st.getD g 0 = is g p
 few : ∀ g : Nat, st.length ≤ g → exitF g p = false ∧ waitsF g p = false
 pn : pn = panF p
theorem IC.nil : IC [] [0] false := ⟨rfl, fun g h => by
 have : g = 0 := by simp at h; exact h
 subst this; rfl, fun _ _ => ⟨rfl, rfl⟩, rfl⟩
theorem is_app_other {g : Int} {p : List Ev} {e : Ev} (h : e.g ≠ g) : is g (p ++ [e]) = is g p := by
 simp [is, exit_app, waits_app, wstep, h]
theorem ew_app_other {g : Int} {p : List Ev} {e : Ev} (h : e.g ≠ g) : exitF g (p ++ [e]) = exitF g p ∧ waitsF g (p ++ [e]) = waitsF g p := by
 simp [exit_app, waits_app, wstep, h]
theorem may_is (g : Int) (p : List Ev) (k : Int) : may (is g p) k = (!exitF g p && (decide (k = 12) || waitsF g p == decide (k = 7))) := by
 unfold may is
 by_cases h7 : k = 7
 ·subst h7; cases exitF g p <;> cases waitsF g p <;> simp
 ·by_cases h12 : k = 12
  ·subst h12; cases exitF g p <;> cases waitsF g p <;> simp
  ·cases exitF g p <;> cases waitsF g p <;> simp [h7, h12]
theorem r2_some {p : List Ev} {st : List Int} {pn : Bool} (I : IC p st pn) (e : Ev) (hg : e.k ≠ 13 → 0 ≤ e.g) : (r2 st pn e).isSome = crew p e := by
 unfold r2 crew
 rw [← I.pn]
 cases pn
 case true => simp
 case false =>
 by_cases h13 : e.k = 13
 ·simp [h13]
 ·have g0 := hg h13
  by_cases hl : (st.length : Int) ≤ e.g
  ·have : ¬ (e.g < there p) := by rw [← I.len]; omega
   simp [h13, hl, this]
  ·have hlt : e.g < there p := by rw [← I.len]; omega
   have hn : e.g.toNat < st.length := by omega
   have hat := I.at_ _ hn
   have ge : ((e.g.toNat : Nat) : Int) = e.g := by omega
   rw [ge] at hat
   rw [hat, may_is]
   cases hm : (!exitF e.g p && (decide (e.k = 12) || waitsF e.g p == decide (e.k = 7)))
   ·simp only [Bool.and_assoc] at hm ⊢
    simp [h13, hl, hlt]
    revert hm
    cases exitF e.g p <;> simp
    intro a b
    simp [a, b]
   ·have hx : exitF e.g p = false := by revert hm; cases exitF e.g p <;> simp
    have hw : (decide (e.k = 12) || waitsF e.g p == decide (e.k = 7)) = true := by revert hm; rw [hx]; simp
    rw [if_neg (by simp), if_neg h13, if_neg hl, if_neg (by simp)]
    have R : (!false && (decide (e.k = 13) || (decide (e.g < there p) && !exitF e.g p && (decide (e.k = 12) || waitsF e.g p == decide (e.k = 7)) && (decide (e.k ≠ 1) || decide (e.m = there p))))) = (decide (e.k ≠ 1) || decide (e.m = there p)) := by
     rw [hx, hw, decide_eq_true hlt, decide_eq_false h13]; simp
    rw [R, ← I.len]
    by_cases h1 : e.k = 1
    ·rw [if_pos h1]
     by_cases hm' : e.m = st.length <;> simp [h1, hm']
    ·rw [if_neg h1]
     have : (decide (e.k ≠ 1) || decide (e.m = (st.length : Int))) = true := by simp [h1]
     rw [this]
     repeat' split
     all_goals rfl
theorem IC.same {p : List Ev} {st : List Int} {pn : Bool} (I : IC p st pn) (e : Ev) (h : e.k ≠ 1) (h6 : e.k ≠ 6) (h7 : e.k ≠ 7) (h11 : e.k ≠ 11) : IC (p ++ [e]) st (pn || decide (e.k = 12)) := by
 have hi : ∀ g, exitF g (p ++ [e]) = exitF g p ∧ waitsF g (p ++ [e]) = waitsF g p := fun g => by
  simp [exit_app, waits_app, wstep, h6, h7, h11]
 refine ⟨?_, fun g hg => ?_, fun g hg => ?_, ?_⟩
 ·rw [there_app, I.len]; simp [h]
 ·rw [I.at_ g hg]; simp [is, hi]
 ·rw [(hi g).1, (hi g).2]; exact I.few g hg
 ·rw [pan_app, I.pn]
theorem IC.set {p : List Ev} {st : List Int} {pn : Bool} (I : IC p st pn) (e : Ev) (h0 : 0 ≤ e.g) (hl : e.g < st.length) (h1 : e.k ≠ 1) (h12 : e.k ≠ 12) (x : Int) (hx : is e.g (p ++ [e]) = x) : IC (p ++ [e]) (st.set e.g.toNat x) pn := by
 refine ⟨?_, fun g hg => ?_, fun g hg => ?_, ?_⟩
 ·rw [List.length_set, there_app, I.len]; simp [h1]
 ·rw [List.length_set] at hg
  by_cases hge : e.g.toNat = g
  ·subst hge
   have ge : ((e.g.toNat : Nat) : Int) = e.g := by omega
   rw [ge, hx]
   simp [List.getD_eq_getElem?_getD, hg]
  ·have ne : e.g ≠ (g : Int) := by omega
   rw [is_app_other ne, ← I.at_ g hg]
   simp [List.getD_eq_getElem?_getD, List.getElem?_set_ne hge]
 ·rw [List.length_set] at hg
  have ne : e.g ≠ (g : Int) := by omega
  rw [(ew_app_other ne).1, (ew_app_other ne).2]
  exact I.few g hg
 ·rw [pan_app, I.pn]; simp [h12]
theorem r2_keeps {p : List Ev} {st : List Int} {pn : Bool} (I : IC p st pn) (e : Ev) (hg : e.k ≠ 13 → 0 ≤ e.g) {st' : List Int} {pn' : Bool} (h : r2 st pn e = some (st', pn')) : IC (p ++ [e]) st' pn' := by
 unfold r2 at h
 cases pn
 case true => simp at h
 case false =>
 by_cases h13 : e.k = 13
 ·simp [h13] at h
  obtain ⟨rfl, rfl⟩ := h
  have := I.same e (by omega) (by omega) (by omega) (by omega)
  simpa [h13] using this
 ·have g0 := hg h13
  by_cases hl : (st.length : Int) ≤ e.g
  ·simp [h13, hl] at h
  have hn : e.g.toNat < st.length := by omega
  have hat := I.at_ _ hn
  have ge : ((e.g.toNat : Nat) : Int) = e.g := by omega
  rw [ge] at hat
  rw [hat] at h
  have hl' : e.g < st.length := by omega
  by_cases hm : may (is e.g p) e.k = false
  ·simp [h13, hl, hm] at h
  rw [if_neg (by simp), if_neg h13, if_neg hl, if_neg hm] at h
  have hm' : may (is e.g p) e.k = true := by simpa using hm
  rw [may_is] at hm'
  have hx : exitF e.g p = false := by revert hm'; cases exitF e.g p <;> simp
  by_cases h1 : e.k = 1
  ·rw [if_pos h1] at h
   by_cases hmm : e.m = st.length
   ·simp [hmm] at h
    obtain ⟨rfl, rfl⟩ := h
    have hi : ∀ g, exitF g (p ++ [e]) = exitF g p ∧ waitsF g (p ++ [e]) = waitsF g p := fun g => by
     simp [exit_app, waits_app, wstep, h1]
    refine ⟨?_, fun g hg => ?_, fun g hg => ?_, ?_⟩
    ·rw [there_app, List.length_append, I.len]; simp [h1]
    ·simp only [is, hi]
     by_cases hlt : g < st.length
     ·have := I.at_ g hlt
      simp only [is] at this
      rw [← this]
      simp [List.getD_eq_getElem?_getD, List.getElem?_append_left hlt]
     ·have he : g = st.length := by simp at hg; omega
      have := I.few g (by omega)
      rw [this.1, this.2]
      subst he
      simp [List.getD_eq_getElem?_getD]
    ·rw [(hi g).1, (hi g).2]
     exact I.few g (by simp at hg; omega)
    ·rw [pan_app, ← I.pn]; simp [h1]
   ·simp [hmm] at h
  rw [if_neg h1] at h
  by_cases h6 : e.k = 6
  ·rw [if_pos h6] at h
   obtain ⟨rfl, rfl⟩ := by simpa using h
   exact I.set e g0 hl' h1 (by omega) 1 (by simp [is, exit_app, waits_app, wstep, h6, hx])
  rw [if_neg h6] at h
  by_cases h7 : e.k = 7
  ·rw [if_pos h7] at h
   obtain ⟨rfl, rfl⟩ := by simpa using h
   exact I.set e g0 hl' h1 (by omega) 0 (by simp [is, exit_app, waits_app, wstep, h7, hx])
  rw [if_neg h7] at h
  by_cases h11 : e.k = 11
  ·rw [if_pos h11] at h
   obtain ⟨rfl, rfl⟩ := by simpa using h
   exact I.set e g0 hl' h1 (by omega) 2 (by simp [is, exit_app, h11])
  rw [if_neg h11] at h
  have S := I.same e h1 h6 h7 h11
  by_cases h12 : e.k = 12
  ·rw [if_pos h12] at h
   obtain ⟨rfl, rfl⟩ := by simpa using h
   simpa [h12] using S
  ·rw [if_neg h12] at h
   obtain ⟨rfl, rfl⟩ := by simpa using h
   simpa [h12] using S
def serves (e : Ev) : Bool := (decide (e.k = 3) || decide (e.k = 4)) && decide (0 ≤ e.m)
def servF (s e : Ev) : Bool := decide (e.k = 7) && decide (e.g = s.m) && decide (e.m = s.g) && decide (e.c = s.c) && (e.s != s.s) && e.o && (!s.s || decide (e.v = s.v))
def back (e : Ev) : List Ev → Bool
 | [] => false
 | x :: r => if x.k = 5 then decide (x.g = e.m) && decide (x.c = e.c) else if x.k ≠ 7 then false else if (r.head?.any serves) then false else back e r
def wakeF (r : List Ev) (e : Ev) : Bool := if e.k ≠ 7 then true else if e.o || e.s then false else back e r
def served (r : List Ev) (e : Ev) : Bool := match r with
 | [] => wakeF [] e
 | s :: r' => if serves s then servF s e else wakeF (s :: r') e
def owed (x : Ev) : Bool := (decide (x.k = 3) || decide (x.k = 4)) && decide (x.m ≠ -1)
def servP (s e : Ev) : Bool :=
 if e.k ≠ 7 ∨ e.g ≠ s.m ∨ e.m ≠ s.g ∨ e.c ≠ s.c ∨ e.o = false then false
 else if s.k = 4 then e.s else !e.s && decide (e.v = s.v)
def closeP (la e : Ev) : Bool := decide (la.k = 5) && decide (e.m = la.g) && decide (e.c = la.c) && !e.s && !e.o
def r4 (la e : Ev) : Option Ev :=
 if owed la then if servP la e then some e else none
 else if e.k ≠ 7 then some e
 else if closeP la e then some la else none
structure Fit (e : Ev) : Prop where
 g : e.k ≠ 13 → 0 ≤ e.g
 c : e.k = 2 ∨ e.k = 3 ∨ e.k = 4 ∨ e.k = 5 → 0 ≤ e.c
 m : -1 ≤ e.m
 s3 : e.k = 3 → e.s = true
 s4 : e.k = 4 → e.s = false
 v : e.k = 2 → 0 ≤ e.v
def ev0 : Ev := ⟨0, 0, 0, 0, 0, 0, false, false⟩
structure IS (r : List Ev) (la : Ev) : Prop where
 ow : owed la = r.head?.any serves
 eq : owed la = true → r.head? = some la
 fit : Fit la
 bk : owed la = false → ∀ e : Ev, back e r = (decide (la.k = 5) && decide (la.g = e.m) && decide (la.c = e.c))
theorem Fit.zero : Fit ev0 := ⟨fun _ => by decide, fun _ => by decide, by decide, fun h => by revert h; decide, fun h => by revert h; decide, fun h => by revert h; decide⟩
theorem IS.nil : IS [] ev0 := ⟨rfl, fun h => absurd h (by decide), Fit.zero, fun _ e => by simp [back, ev0]⟩
theorem owed_serves {e : Ev} (f : Fit e) : owed e = serves e := by
 have := f.m
 unfold owed serves
 by_cases h : e.m = -1
 ·simp [h]
 ·have : 0 ≤ e.m := by omega
  simp [h, this]
theorem serv_eq {s e : Ev} (f : Fit s) (h : serves s = true) : servP s e = servF s e := by
 have hk : s.k = 3 ∨ s.k = 4 := by
  unfold serves at h
  simp at h
  exact h.1
 unfold servP servF
 by_cases a1 : e.k = 7 <;> by_cases a2 : e.g = s.m <;> by_cases a3 : e.m = s.g <;> by_cases a4 : e.c = s.c <;> simp [a1, a2, a3, a4]
 rcases hk with hk | hk
 ·rw [f.s3 hk]
  cases e.o <;> cases e.s <;> simp [hk]
 ·rw [f.s4 hk]
  cases e.o <;> cases e.s <;> simp [hk]
theorem r4_some {r : List Ev} {la : Ev} (I : IS r la) (e : Ev) : (r4 la e).isSome = served r e := by
 unfold r4
 cases ho : owed la
 ·have hh := I.ow
  rw [ho] at hh
  have hw : served r e = wakeF r e := by
   cases r with
   | nil => rfl
   | cons s r' =>
     have hs : serves s = false := by simpa using hh.symm
     simp [served, hs]
  rw [hw, if_neg (by simp)]
  unfold wakeF
  by_cases h7 : e.k = 7
  ·have n7 : ¬ (e.k ≠ 7) := fun q => q h7
   rw [if_neg n7, if_neg n7, I.bk ho e]
   unfold closeP
   rw [show decide (e.m = la.g) = decide (la.g = e.m) from decide_eq_decide.2 eq_comm, show decide (e.c = la.c) = decide (la.c = e.c) from decide_eq_decide.2 eq_comm]
   cases e.o <;> cases e.s <;> cases decide (la.k = 5) <;> cases decide (la.g = e.m) <;> cases decide (la.c = e.c) <;> rfl
  ·rw [if_pos h7, if_pos h7]; rfl
 ·have hr := I.eq ho
  have hs : serves la = true := by rw [← owed_serves I.fit]; exact ho
  cases r with
  | nil => simp at hr
  | cons s r' =>
    simp only [List.head?_cons, Option.some.injEq] at hr
    subst hr
    rw [if_pos rfl]
    simp only [served, hs, if_true]
    rw [serv_eq I.fit hs]
    cases servF s e <;> rfl
theorem r4_keeps {r : List Ev} {la : Ev} (I : IS r la) (e : Ev) (f : Fit e) {la' : Ev} (h : r4 la e = some la') : IS (e :: r) la' := by
 unfold r4 at h
 cases ho : owed la
 ·rw [ho, if_neg (by simp)] at h
  by_cases h7 : e.k = 7
  ·rw [if_neg (by simp [h7])] at h
   by_cases hc : closeP la e = true
   ·rw [if_pos hc] at h
    cases h
    have hk : la.k = 5 := by revert hc; unfold closeP; simp; intro a; simp [a]
    have hn : serves e = false := by simp [serves, h7]
    refine ⟨?_, ?_, I.fit, fun _ x => ?_⟩
    ·rw [ho]; simp [hn]
    ·rw [ho]; intro q; cases q
    ·have hh := I.ow
     rw [ho] at hh
     rw [← I.bk ho x]
     simp [back, h7, ← hh]
   ·rw [if_neg hc] at h; cases h
  ·rw [if_pos h7] at h
   cases h
   refine ⟨?_, fun _ => rfl, f, fun _ x => ?_⟩
   ·rw [owed_serves f]; simp
   ·by_cases h5 : e.k = 5
    ·simp [back, h5]
    ·simp [back, h5, h7]
 ·rw [ho, if_pos rfl] at h
  by_cases hv : servP la e = true
  ·rw [if_pos hv] at h
   cases h
   have h7 : e.k = 7 := by
    apply Classical.byContradiction
    intro q
    simp [servP, q] at hv
   refine ⟨?_, fun _ => rfl, f, fun _ x => ?_⟩
   ·rw [owed_serves f]; simp
   ·have hr := I.ow
    rw [ho] at hr
    simp [back, h7, ← hr]
  ·rw [if_neg hv] at h; cases h
def made (p : List Ev) (e : Ev) : Bool := if e.k = 2 then decide (e.c = p.countP fun x => decide (x.k = 2)) else decide (e.c < p.countP fun x => decide (x.k = 2))
structure In where
 size : Int
 L : List Int
 closed : Bool
 right : Bool
def in0 : In := ⟨0, [], false, true⟩
def moves (e : Ev) : Bool := decide (e.k = 3) || (decide (e.k = 4) && e.o)
def put (L : List Int) (e : Ev) (nx : Option Ev) : List Int :=
 if e.k = 3 then L ++ [e.v] else if 0 ≤ e.m then match nx with
  | some x => L ++ [x.v]
  | none => L
 else L
def mov (s : In) (e : Ev) (nx : Option Ev) : In :=
 if e.k = 4 ∨ 0 ≤ e.m then match put s.L e nx with
  | v :: r => ⟨s.size, r, s.closed, decide (v = e.v) && decide ((r.length : Int) ≤ s.size)⟩
  | [] => ⟨s.size, [], s.closed, (decide (0 ≤ e.m) && nx.isNone) && decide (0 ≤ s.size)⟩
 else ⟨s.size, put s.L e nx, s.closed, decide (((put s.L e nx).length : Int) ≤ s.size)⟩
def ins (s : In) (c : Int) (e : Ev) (nx : Option Ev) : In :=
 if e.c ≠ c then s
 else if moves e then mov s e nx
 else ⟨if e.k = 2 then e.v else s.size, s.L, if e.k = 5 then true else s.closed, s.right⟩
def ordered (s : In) (e : Ev) (nx : Option Ev) : Bool := if moves e then (mov s e nx).right else true
def closedF (s : In) (e : Ev) : Bool :=
 if e.k < 3 ∨ 5 < e.k then true
 else if e.k = 4 ∧ e.o = false then s.closed && s.L.isEmpty
 else if e.k = 4 ∧ e.m < 0 then true
 else !s.closed
structure Chn where
 cap : Int
 vs : List Int
 cl : Bool
def chz : Chn := ⟨0, [], false⟩
def r3 (ch : List Chn) (e : Ev) : Option (List Chn) :=
 if e.k = 2 then if e.c ≠ ch.length then none else some (ch ++ [⟨e.v, [], false⟩])
 else if e.c < ch.length then some ch else none
def putP (c : Chn) (e : Ev) (nx : Option Ev) : List Int :=
 if e.k = 3 then c.vs ++ [e.v] else if e.m ≠ -1 then match nx with
  | some x => c.vs ++ [x.v]
  | none => c.vs
 else c.vs
def r5c (c : Chn) (e : Ev) (nx : Option Ev) : Option Chn :=
 if e.k = 4 ∨ e.m ≠ -1 then match putP c e nx with
  | [] => if e.m ≠ -1 then some c else none
  | v :: r => if v ≠ e.v then none else if (r.length : Int) ≤ c.cap then some ⟨c.cap, r, c.cl⟩ else none
 else if ((putP c e nx).length : Int) ≤ c.cap then some ⟨c.cap, putP c e nx, c.cl⟩ else none
def r5 (ch : List Chn) (e : Ev) (nx : Option Ev) : Option (List Chn) :=
 if moves e then (r5c (ch.getD e.c.toNat chz) e nx).map fun c => ch.set e.c.toNat c else some ch
def r6 (ch : List Chn) (e : Ev) : Option (List Chn) :=
 let c := ch.getD e.c.toNat chz
 if e.k = 5 then if c.cl then none else some (ch.set e.c.toNat ⟨c.cap, c.vs, true⟩)
 else if e.k = 3 then if c.cl then none else some ch
 else if e.k = 4 then
  if e.o = false then if c.cl && c.vs.isEmpty then some ch else none
  else if e.m = -1 ∨ c.cl = false then some ch else none
 else some ch
def chOf (s : In) : Chn := ⟨s.size, s.L, s.closed⟩
theorem put_eq {e : Ev} (f : Fit e) (s : In) (nx : Option Ev) : putP (chOf s) e nx = put s.L e nx := by
 unfold putP put chOf
 have := f.m
 by_cases h : e.m = -1
 ·simp [h]
 ·have h' : 0 ≤ e.m := by omega
  simp [h, h']
theorem mov_size (s : In) (e : Ev) (nx : Option Ev) : (mov s e nx).size = s.size := by
 unfold mov; repeat' split
 all_goals rfl
theorem mov_closed (s : In) (e : Ev) (nx : Option Ev) : (mov s e nx).closed = s.closed := by
 unfold mov; repeat' split
 all_goals rfl
theorem r5c_is {e : Ev} (f : Fit e) {s : In} (h0 : 0 ≤ s.size) (nx : Option Ev) :
 r5c (chOf s) e nx = if (mov s e nx).right then some (chOf (mov s e nx)) else none := by
 unfold r5c mov
 rw [put_eq f]
 have fm := f.m
 have e1 : (e.k = 4 ∨ e.m ≠ -1) ↔ (e.k = 4 ∨ 0 ≤ e.m) := by
  constructor
  ·rintro (h | h)
   ·exact .inl h
   ·exact .inr (by omega)
  ·rintro (h | h)
   ·exact .inl h
   ·exact .inr (by omega)
 by_cases h : e.k = 4 ∨ 0 ≤ e.m
 ·rw [if_pos (e1.2 h), if_pos h]
  cases hp : put s.L e nx with
  | nil =>
    have hL : s.L = [] ∧ (0 ≤ e.m → nx.isNone = true) := by
     unfold put at hp
     by_cases h3 : e.k = 3
     ·simp [h3] at hp
     ·simp only [h3, if_false] at hp
      by_cases hmm : 0 ≤ e.m
      ·rw [if_pos hmm] at hp
       cases nx with
       | none => exact ⟨hp, fun _ => rfl⟩
       | some x => simp at hp
      ·rw [if_neg hmm] at hp
       exact ⟨hp, fun q => absurd q hmm⟩
    by_cases hmm : 0 ≤ e.m
    ·have : e.m ≠ -1 := by omega
     simp [this, hmm, hL.2 hmm, h0, chOf, hL.1]
    ·have : e.m = -1 := by omega
     simp [this]
  | cons v r =>
    by_cases hv : v = e.v
    ·by_cases hr : (r.length : Int) ≤ s.size
     ·simp [hv, hr, chOf]
     ·simp [hv, hr, chOf]
    ·simp [hv]
 ·rw [if_neg (fun q => h (e1.1 q)), if_neg h]
  by_cases hr : ((put s.L e nx).length : Int) ≤ s.size
  ·simp [hr, chOf]
  ·simp [hr, chOf]
structure IM (p : List Ev) (K : Int → In) (ch : List Chn) : Prop where
 len : ch.length = p.countP fun x => decide (x.k = 2)
 at_ : ∀ c : Nat, c < ch.length → ch.getD c chz = chOf (K c) ∧ 0 ≤ (K c).size
 few : ∀ c : Nat, ch.length ≤ c → K c = in0
theorem IM.nil : IM [] (fun _ => in0) [] := ⟨rfl, fun _ h => by simp at h, fun _ _ => rfl⟩
theorem r3_some {p : List Ev} {K : Int → In} {ch : List Chn} (I : IM p K ch) (e : Ev) : (r3 ch e).isSome = made p e := by
 unfold r3 made
 rw [← I.len]
 by_cases h : e.k = 2
 ·by_cases hc : e.c = ch.length <;> simp [h, hc]
 ·by_cases hc : e.c < ch.length <;> simp [h, hc]
theorem IM.set {p : List Ev} {K : Int → In} {ch : List Chn} (I : IM p K ch) (e : Ev) (nx : Option Ev) (h2 : e.k ≠ 2) (h0 : 0 ≤ e.c) (hl : e.c < ch.length)
 (x : Chn) (hx : x = chOf (ins (K e.c) e.c e nx)) : IM (p ++ [e]) (fun c => ins (K c) c e nx) (ch.set e.c.toNat x) := by
 have ce : ((e.c.toNat : Nat) : Int) = e.c := by omega
 refine ⟨?_, fun c hc => ?_, fun c hc => ?_⟩
 ·rw [List.length_set, I.len]; simp [List.countP_append, h2]
 ·rw [List.length_set] at hc
  by_cases he : e.c.toNat = c
  ·subst he
   rw [ce]
   refine ⟨?_, ?_⟩
   ·rw [hx]; simp [List.getD_eq_getElem?_getD, hc]
   ·have := (I.at_ _ hc).2
    rw [ce] at this
    unfold ins
    rw [if_neg (by simp)]
    split
    ·rw [mov_size]; exact this
    ·simpa [h2] using this
  ·have ne : e.c ≠ (c : Int) := by omega
   have := I.at_ c hc
   simp only [ins, ne, ne_eq, not_false_eq_true, if_true]
   refine ⟨?_, this.2⟩
   rw [← this.1]
   simp [List.getD_eq_getElem?_getD, List.getElem?_set_ne he]
 ·rw [List.length_set] at hc
  have ne : e.c ≠ (c : Int) := by omega
  simp only [ins, ne, ne_eq, not_false_eq_true, if_true]
  exact I.few c hc
theorem IM.rest {p : List Ev} {K : Int → In} {ch : List Chn} (I : IM p K ch) (e : Ev) (nx : Option Ev) (h2 : e.k ≠ 2) (h5 : e.k ≠ 5) (hm : moves e = false) : IM (p ++ [e]) (fun c => ins (K c) c e nx) ch := by
 have hi : ∀ c, ins (K c) c e nx = K c := fun c => by
  unfold ins
  split
  ·rfl
  ·rw [hm]; rfl
 simp only [hi]
 refine ⟨?_, I.at_, I.few⟩
 rw [I.len]; simp [List.countP_append, h2]
theorem IM.make {p : List Ev} {K : Int → In} {ch : List Chn} (I : IM p K ch) (e : Ev) (nx : Option Ev) (h2 : e.k = 2) (hc : e.c = ch.length) (hv : 0 ≤ e.v) : IM (p ++ [e]) (fun c => ins (K c) c e nx) (ch ++ [⟨e.v, [], false⟩]) := by
 have hm : moves e = false := by simp [moves, h2]
 refine ⟨?_, fun c hl => ?_, fun c hl => ?_⟩
 ·rw [List.length_append, I.len]; simp [List.countP_append, h2]
 ·by_cases he : c = ch.length
  ·subst he
   have := I.few ch.length (Nat.le_refl _)
   unfold ins
   rw [if_neg (by simp [hc]), hm, this]
   simp [List.getD_eq_getElem?_getD, chOf, in0, h2, hv]
  ·have hlt : c < ch.length := by simp at hl; omega
   have ne : e.c ≠ (c : Int) := by omega
   have := I.at_ c hlt
   simp only [ins, ne, ne_eq, not_false_eq_true, if_true]
   refine ⟨?_, this.2⟩
   rw [← this.1]
   simp [List.getD_eq_getElem?_getD, List.getElem?_append_left hlt]
 ·have ne : e.c ≠ (c : Int) := by simp at hl; omega
  simp only [ins, ne, ne_eq, not_false_eq_true, if_true]
  exact I.few c (by simp at hl; omega)
theorem moves_k {e : Ev} (h : moves e = true) : e.k = 3 ∨ (e.k = 4 ∧ e.o = true) := by
 unfold moves at h; simpa using h
theorem chans {p : List Ev} {K : Int → In} {ch : List Chn} (I : IM p K ch) (e : Ev) (f : Fit e) (nx : Option Ev) {ch3 : List Chn} (h3 : r3 ch e = some ch3) :
 (r5 ch3 e nx).isSome = ordered (K e.c) e nx ∧ ∀ ch5, r5 ch3 e nx = some ch5 → (r6 ch5 e).isSome = closedF (K e.c) e ∧ ∀ ch6, r6 ch5 e = some ch6 → IM (p ++ [e]) (fun c => ins (K c) c e nx) ch6 := by
 unfold r3 at h3
 by_cases h2 : e.k = 2
 ·rw [if_pos h2] at h3
  by_cases hc : e.c = ch.length
  ·rw [if_neg (by simp [hc])] at h3
   cases h3
   have hm : moves e = false := by simp [moves, h2]
   refine ⟨by simp [r5, ordered, hm], fun ch5 h5 => ?_⟩
   simp only [r5, hm] at h5
   cases h5
   refine ⟨by simp [r6, closedF, h2], fun ch6 h6 => ?_⟩
   simp [r6, h2] at h6
   subst h6
   exact I.make e nx h2 hc (f.v h2)
  ·rw [if_pos (by simpa using hc)] at h3; cases h3
 rw [if_neg h2] at h3
 by_cases hl : e.c < ch.length
 case neg => rw [if_neg hl] at h3; cases h3
 rw [if_pos hl] at h3
 cases h3
 by_cases hk : e.k = 3 ∨ e.k = 4 ∨ e.k = 5
 ·have h0 : 0 ≤ e.c := f.c (by omega)
  have hn : e.c.toNat < ch.length := by omega
  have ce : ((e.c.toNat : Nat) : Int) = e.c := by omega
  have ha := I.at_ _ hn
  rw [ce] at ha
  by_cases hm : moves e = true
  ·have hr : r5 ch e nx = if (mov (K e.c) e nx).right then some (ch.set e.c.toNat (chOf (mov (K e.c) e nx))) else none := by
    unfold r5
    rw [if_pos hm, ha.1, r5c_is f ha.2]
    cases (mov (K e.c) e nx).right <;> rfl
   rw [hr]
   refine ⟨?_, fun ch5 h5 => ?_⟩
   ·unfold ordered
    rw [if_pos hm]
    cases (mov (K e.c) e nx).right <;> rfl
   ·have hx : ch5 = ch.set e.c.toNat (chOf (mov (K e.c) e nx)) := by
     revert h5
     cases (mov (K e.c) e nx).right <;> simp
     intro q; exact q.symm
    have hi : ins (K e.c) e.c e nx = mov (K e.c) e nx := by simp [ins, hm]
    have hg : (ch.set e.c.toNat (chOf (mov (K e.c) e nx))).getD e.c.toNat chz = chOf (mov (K e.c) e nx) := by simp [List.getD_eq_getElem?_getD, hn]
    have hcl : (chOf (mov (K e.c) e nx)).cl = (K e.c).closed := mov_closed _ _ _
    have IMs := I.set e nx h2 h0 hl (chOf (mov (K e.c) e nx)) (by rw [hi])
    subst hx
    rcases moves_k hm with k3 | ⟨k4, ko⟩
    ·have hr6 : r6 (ch.set e.c.toNat (chOf (mov (K e.c) e nx))) e = if (K e.c).closed then none else some (ch.set e.c.toNat (chOf (mov (K e.c) e nx))) := by
      unfold r6; simp only [hg, hcl]; simp [k3]
     rw [hr6]
     refine ⟨by simp [closedF, k3]; cases (K e.c).closed <;> rfl, fun ch6 h6 => ?_⟩
     revert h6
     cases (K e.c).closed <;> simp
     intro q; subst q; exact IMs
    ·have hr6 : r6 (ch.set e.c.toNat (chOf (mov (K e.c) e nx))) e = if e.m = -1 ∨ (K e.c).closed = false then some (ch.set e.c.toNat (chOf (mov (K e.c) e nx))) else none := by
      unfold r6; simp only [hg, hcl]; simp [k4, ko]
     rw [hr6]
     refine ⟨?_, fun ch6 h6 => ?_⟩
     ·have := f.m
      by_cases hmm : e.m = -1
      ·simp [closedF, k4, ko, hmm]
      ·have : ¬ (e.m < 0) := by omega
       simp only [closedF, k4, ko, hmm, this]
       cases (K e.c).closed <;> simp
     ·split at h6
      ·cases h6; exact IMs
      ·cases h6
  ·have hm : moves e = false := by simpa using hm
   refine ⟨by simp [r5, ordered, hm], fun ch5 h5 => ?_⟩
   simp only [r5, hm] at h5
   cases h5
   by_cases k5 : e.k = 5
   ·have hr6 : r6 ch e = if (K e.c).closed then none else some (ch.set e.c.toNat ⟨(K e.c).size, (K e.c).L, true⟩) := by
     unfold r6; simp only [ha.1]; rw [if_pos k5]; rfl
    rw [hr6]
    refine ⟨by simp [closedF, k5]; cases (K e.c).closed <;> rfl, fun ch6 h6 => ?_⟩
    have IMs := I.set e nx h2 h0 hl ⟨(K e.c).size, (K e.c).L, true⟩ (by simp [ins, hm, k5, chOf])
    revert h6
    cases (K e.c).closed <;> simp
    intro q; subst q; exact IMs
   ·have k4 : e.k = 4 := by
     rcases hk with q | q | q
     ·exact absurd hm (by simp [moves, q])
     ·exact q
     ·exact absurd q k5
    have ko : e.o = false := by simpa [moves, k4] using hm
    have hr6 : r6 ch e = if (K e.c).closed && (K e.c).L.isEmpty then some ch else none := by
     unfold r6; simp only [ha.1]; simp [k4, ko, chOf]
    rw [hr6]
    refine ⟨by simp only [closedF, k4, ko]; cases ((K e.c).closed && (K e.c).L.isEmpty) <;> simp, fun ch6 h6 => ?_⟩
    split at h6
    ·cases h6; exact I.rest e nx h2 k5 hm
    ·cases h6
 ·have n3 : e.k ≠ 3 := fun q => hk (.inl q)
  have n4 : e.k ≠ 4 := fun q => hk (.inr (.inl q))
  have n5 : e.k ≠ 5 := fun q => hk (.inr (.inr q))
  have hm : moves e = false := by simp [moves, n3, n4]
  refine ⟨by simp [r5, ordered, hm], fun ch5 h5 => ?_⟩
  simp only [r5, hm] at h5
  cases h5
  have hcf : closedF (K e.c) e = true := by
   unfold closedF
   rw [if_pos (by omega)]
  refine ⟨by rw [hcf]; simp [r6, n3, n4, n5], fun ch6 h6 => ?_⟩
  simp [r6, n3, n4, n5] at h6
  subst h6
  exact I.rest e nx h2 n5 hm
theorem fit_of {e : Ev} (h : chk e = 0) : Fit e := by
 have hk : ¬ (e.k < 1 ∨ 13 < e.k) := fun q => by simp [chk, q] at h
 have hb : (ff e && okF e) = true := by
  apply Classical.byContradiction
  intro q
  simp [chk, hk, q] at h
 have hf : ff e = true := by revert hb; cases ff e <;> simp
 have ho : okF e = true := by revert hb; rw [hf]; simp
 have o0 := okF_at ho 0 (by decide)
 have o1 := okF_at ho 1 (by decide)
 have o3 := okF_at ho 3 (by decide)
 have o4 := okF_at ho 4 (by decide)
 obtain ⟨k, g, c, a, v, m, s, o⟩ := e
 simp only at hk
 have hc : k = 1 ∨ k = 2 ∨ k = 3 ∨ k = 4 ∨ k = 5 ∨ k = 6 ∨ k = 7 ∨ k = 8 ∨ k = 9 ∨ k = 10 ∨ k = 11 ∨ k = 12 ∨ k = 13 := by omega
 clear h hk hb ho
 rcases hc with rfl | rfl | rfl | rfl | rfl | rfl | rfl | rfl | rfl | rfl | rfl | rfl | rfl <;>
  simp [okA, spn, fl, Ba.nth, inS, ml, mh, ff] at o0 o1 o3 o4 hf <;>
  (try (by_cases ha : a = -1 <;> simp [ha] at o0 o1 o3 o4)) <;>
  exact ⟨fun q => by simp at q ⊢ <;> omega, fun q => by simp at q ⊢ <;> omega, by simp; omega, fun q => by simp at q ⊢ <;> simp_all, fun q => by simp at q ⊢ <;> simp_all, fun q => by simp at q ⊢ <;> omega⟩
def inn (l : List Ev) : Nat → Int → In
 | 0, _ => in0
 | n + 1, c => match l[n]? with
   | some e => ins (inn l n c) c e l[n + 1]?
   | none => inn l n c
def ruleD (l : List Ev) (i : Nat) (e : Ev) : Int :=
 if 2000 ≤ i ∨ chk e ≠ 0 then 1
 else if crew (l.take i) e = false then 2
 else if made (l.take i) e = false then 3
 else if served (l.take i).reverse e = false then 4
 else if ordered (inn l i e.c) e l[i + 1]? = false then 5
 else if closedF (inn l i e.c) e = false then 6
 else 0
structure Gs where
 st : List Int
 pn : Bool
 ch : List Chn
 la : Ev
def stepG (s : Gs) (i : Nat) (e : Ev) (nx : Option Ev) : Except Int Gs :=
 if 2000 ≤ i ∨ chk e ≠ 0 then .error 1
 else match r2 s.st s.pn e with
 | none => .error 2
 | some (st, pn) => match r3 s.ch e with
   | none => .error 3
   | some ch3 => match r4 s.la e with
     | none => .error 4
     | some la => match r5 ch3 e nx with
       | none => .error 5
       | some ch5 => match r6 ch5 e with
         | none => .error 6
         | some ch6 => .ok ⟨st, pn, ch6, la⟩
structure IG (l : List Ev) (i : Nat) (s : Gs) : Prop where
 c : IC (l.take i) s.st s.pn
 m : IM (l.take i) (inn l i) s.ch
 s : IS (l.take i).reverse s.la
def gs0 : Gs := ⟨[0], false, [], ev0⟩
theorem IG.nil (l : List Ev) : IG l 0 gs0 := by
 refine ⟨?_, ?_, ?_⟩
 ·rw [List.take_zero]; exact IC.nil
 ·have : inn l 0 = fun _ => in0 := by funext c; rfl
  rw [this, List.take_zero]; exact IM.nil
 ·rw [List.take_zero]; exact IS.nil
theorem stepG_is {l : List Ev} {i : Nat} {e : Ev} {s : Gs} (I : IG l i s) (he : l[i]? = some e) :
 (∃ n, n ≠ 0 ∧ ruleD l i e = n ∧ stepG s i e l[i + 1]? = .error n) ∨ (ruleD l i e = 0 ∧ ∃ s', stepG s i e l[i + 1]? = .ok s' ∧ IG l (i + 1) s') := by
 have ht : l.take (i + 1) = l.take i ++ [e] := by rw [List.take_add_one, he]; rfl
 have hK : inn l (i + 1) = fun c => ins (inn l i c) c e l[i + 1]? := by funext c; simp [inn, he]
 unfold ruleD stepG
 by_cases h1 : 2000 ≤ i ∨ chk e ≠ 0
 ·exact .inl ⟨1, by decide, by rw [if_pos h1], by rw [if_pos h1]⟩
 rw [if_neg h1, if_neg h1]
 have f : Fit e := fit_of (by omega)
 have q2 := r2_some I.c e f.g
 cases e2 : r2 s.st s.pn e with
 | none =>
   rw [e2] at q2
   exact .inl ⟨2, by decide, if_pos (by rw [← q2]; rfl), rfl⟩
 | some sp =>
 obtain ⟨st, pn⟩ := sp
 have c2 := r2_keeps I.c e f.g e2
 rw [e2] at q2
 rw [if_neg (by rw [← q2]; simp)]
 have q3 := r3_some I.m e
 cases e3 : r3 s.ch e with
 | none =>
   rw [e3] at q3
   exact .inl ⟨3, by decide, if_pos (by rw [← q3]; rfl), rfl⟩
 | some ch3 =>
 rw [e3] at q3
 rw [if_neg (by rw [← q3]; simp)]
 have q4 := r4_some I.s e
 cases e4 : r4 s.la e with
 | none =>
   rw [e4] at q4
   exact .inl ⟨4, by decide, if_pos (by rw [← q4]; rfl), rfl⟩
 | some la =>
 have c4 := r4_keeps I.s e f e4
 rw [e4] at q4
 rw [if_neg (by rw [← q4]; simp)]
 obtain ⟨q5, c5⟩ := chans I.m e f l[i + 1]? e3
 cases e5 : r5 ch3 e l[i + 1]? with
 | none =>
   rw [e5] at q5
   exact .inl ⟨5, by decide, if_pos (by rw [← q5]; rfl), by simp only [e5]⟩
 | some ch5 =>
 rw [e5] at q5
 rw [if_neg (by rw [← q5]; simp)]
 obtain ⟨q6, c6⟩ := c5 _ e5
 cases e6 : r6 ch5 e with
 | none =>
   rw [e6] at q6
   exact .inl ⟨6, by decide, if_pos (by rw [← q6]; rfl), by simp only [e5, e6]⟩
 | some ch6 =>
 rw [e6] at q6
 rw [if_neg (by rw [← q6]; simp)]
 refine .inr ⟨rfl, _, by simp only [e5, e6]; rfl, ⟨?_, ?_, ?_⟩⟩
 ·rw [ht]; exact c2
 ·rw [ht, hK]; exact c6 _ e6
 ·rw [ht, List.reverse_append]; exact c4
theorem IG.owed {l : List Ev} {s : Gs} (I : IG l l.length s) : owed s.la = l.getLast?.any serves := by
 have := I.s.ow
 rw [List.take_length, List.head?_reverse] at this
 exact this
end Gu
end Go.Proofs.YtkkgbeaaekmhfaaGreat
namespace Go.Proofs.YtkkgbeaaekmhfaaGreat
open Go.ChangeShapes Go.WideShapes Go.ChangeAt Go.RowKit
namespace Gu
open En Ba
def EsAt (w : World) (oa : Option Addr) (l : List Ev) : Prop :=
 ∀ k e, l[k]? = some e → ∃ b off, oa = some ⟨b, off, none⟩ ∧ ∀ j, j < 8 → w.cell? ⟨b, off + k * 8 + j, none⟩ = (En.evc e)[j]?
theorem EsAt.nil (w : World) (oa : Option Addr) : EsAt w oa [] := fun _ _ h => by simp at h
theorem evc_some (e : Ev) (j : Nat) (h : j < 8) : ∃ v, (En.evc e)[j]? = some v := ⟨_, Array.getElem?_eq_getElem h⟩
theorem EsAt.below {w w' : World} {oa : Option Addr} {l : List Ev} (h : EsAt w oa l) (hb : Below w.heap.size w w') : EsAt w' oa l := by
 intro k e hk
 obtain ⟨b, off, he, hc⟩ := h k e hk
 refine ⟨b, off, he, fun j hj => ?_⟩
 obtain ⟨v, hv⟩ := evc_some e j hj
 have := hc j hj
 rw [hv] at this ⊢
 exact (hb.cell (World.block_lt_of_cell? w _ this)).trans this
theorem EsAt.read {w : World} {b off : Nat} {l : List Ev} {k : Nat} {e : Ev} (h : EsAt w (some ⟨b, off, none⟩) l) (hk : l[k]? = some e) : w.cell? ⟨b, off + k * 8, none⟩ = some (.int .i64 e.k) ∧ w.cell? ⟨b, off + k * 8 + 1, none⟩ = some (.int .i64 e.g) ∧ w.cell? ⟨b, off + k * 8 + 2, none⟩ = some (.int .i64 e.c) ∧ w.cell? ⟨b, off + k * 8 + 3, none⟩ = some (.int .i64 e.a) ∧ w.cell? ⟨b, off + k * 8 + 4, none⟩ = some (.int .i64 e.v) ∧ w.cell? ⟨b, off + k * 8 + 5, none⟩ = some (.int .i64 e.m) ∧ w.cell? ⟨b, off + k * 8 + 6, none⟩ = some (.bool e.s) ∧ w.cell? ⟨b, off + k * 8 + 7, none⟩ = some (.bool e.o) := by
 obtain ⟨b', off', he, hc⟩ := h k e hk
 cases he
 exact ⟨hc 0 (by decide), hc 1 (by decide), hc 2 (by decide), hc 3 (by decide), hc 4 (by decide), hc 5 (by decide), hc 6 (by decide), hc 7 (by decide)⟩
theorem rserves_any (e : Ev) (w : World) :
 Calls Tryz.prog 10 #[evv e] w fun r w' => r = .returned (.bool (serves e)) ∧ Below w.heap.size w w' := by
 unfold evv evc serves
 obtain ⟨k, g, c, a, v, m, s, o⟩ := e
 simp only
 cases h3 : decide (k = 3) <;> cases h4 : decide (k = 4) <;> cases hm : decide (0 ≤ m) <;>
  (have a3 := h3
   have a4 := h4
   have am := hm
   simp only [decide_eq_true_eq, decide_eq_false_iff_not] at a3 a4 am
   first
   | (exfalso; omega)
   | (go_enter Tryz.func10, Tryz.ntmps10
      go_wp2_with fail
      go_ret
      exact ⟨rfl, below_alloc _ _⟩))
def mk (p : List Ev) : Nat := p.countP fun x => decide (x.k = 2)
theorem mk_take {l : List Ev} {k : Nat} {e : Ev} (h : l[k]? = some e) : mk (l.take (k + 1)) = mk (l.take k) + if e.k = 2 then 1 else 0 := by
 rw [List.take_add_one, h]
 by_cases q : e.k = 2 <;> simp [mk, q]
theorem mk_le (l : List Ev) (k : Nat) : mk (l.take k) ≤ k := by
 have := List.countP_le_length (p := fun x : Ev => decide (x.k = 2)) (l := l.take k)
 simp only [List.length_take] at this
 unfold mk; omega
end Gu
end Go.Proofs.YtkkgbeaaekmhfaaGreat
namespace Go.Proofs.YtkkgbeaaekmhfaaGreat
open Go.ChangeShapes Go.WideShapes Go.ChangeAt Go.RowKit
namespace Gu
open En Ba
theorem there_take {l : List Ev} {k : Nat} {e : Ev} (h : l[k]? = some e) : there (l.take (k + 1)) = there (l.take k) + if e.k = 1 then 1 else 0 := by
 rw [List.take_add_one, h]; exact there_app _ _
theorem exit_take {l : List Ev} {k : Nat} {e : Ev} (h : l[k]? = some e) (g : Int) : exitF g (l.take (k + 1)) = (exitF g (l.take k) || (decide (e.g = g) && decide (e.k = 11))) := by
 rw [List.take_add_one, h]; exact exit_app _ _ _
theorem waits_take {l : List Ev} {k : Nat} {e : Ev} (h : l[k]? = some e) (g : Int) : waitsF g (l.take (k + 1)) = wstep g (waitsF g (l.take k)) e := by
 rw [List.take_add_one, h]; exact waits_app _ _ _
theorem pan_take {l : List Ev} {k : Nat} {e : Ev} (h : l[k]? = some e) : panF (l.take (k + 1)) = (panF (l.take k) || decide (e.k = 12)) := by
 rw [List.take_add_one, h]; exact pan_app _ _
theorem pan_more {l : List Ev} {k i : Nat} (h : k ≤ i) (hp : panF (l.take k) = true) : panF (l.take i) = true := by
 have : l.take i = l.take k ++ (l.take i).drop k := by
  rw [show l.take k = (l.take i).take k by rw [List.take_take, Nat.min_eq_left h]]
  exact (List.take_append_drop _ _).symm
 rw [this]; simp only [panF, List.any_append] at hp ⊢; rw [hp]; rfl
theorem there_le (l : List Ev) (k : Nat) : there (l.take k) ≤ k + 1 := by
 have := List.countP_le_length (p := fun x : Ev => decide (x.k = 1)) (l := l.take k)
 simp only [List.length_take] at this
 unfold there; omega
end Gu
end Go.Proofs.YtkkgbeaaekmhfaaGreat
namespace Go.Proofs.YtkkgbeaaekmhfaaGreat
open Go.ChangeShapes Go.WideShapes Go.ChangeAt Go.RowKit
namespace Gu
open En Ba
theorem rev_take {l : List Ev} {k : Nat} {x : Ev} (h : l[k]? = some x) : (l.take (k + 1)).reverse = x :: (l.take k).reverse := by
 rw [List.take_add_one, h]; simp
end Gu
end Go.Proofs.YtkkgbeaaekmhfaaGreat
namespace Go.Proofs.YtkkgbeaaekmhfaaGreat
open Go.ChangeShapes Go.WideShapes Go.ChangeAt Go.RowKit
namespace Gu
open En Ba
def ic (l : List Int) : List Value := l.map (Value.int .i64)
theorem ic_app (l m : List Int) : ic (l ++ m) = ic l ++ ic m := by simp [ic]
theorem ic_one (l : List Int) : ∀ u ∈ ic l, u.oneCell' = true := by
 intro u hu
 obtain ⟨b, -, rfl⟩ := List.mem_map.1 hu
 rfl
theorem ic_len (l : List Int) : (ic l).length = l.length := by simp [ic]
theorem info_int : (Tryz.prog.info? 3).map (fun i => (i.zero, i.size, i.bytes)) = some (some (.int .i64 0), 1, 8) := by kernel_rfl
theorem own_sl {w : World} {base : Nat} {e : TypeId} {size n : Nat} {v : Value} {xs : List Value} (h : w.ownsRow base e size v n xs) : ∃ oa c, v = .slice oa n c := by
 rcases h.2 with ⟨rfl, rfl⟩ | ⟨g, cap, cr, rfl, -⟩
 ·exact ⟨none, 0, rfl⟩
 ·exact ⟨_, _, rfl⟩
theorem own_kb {w w' : World} {P base size : Nat} {e : TypeId} {v : Value} {n : Nat} {xs : List Value} (h : w.ownsRow base e size v n xs) (k : KB P w w') (hn : v.ownBlock ≠ some P) : w'.ownsRow base e size v n xs := by
 refine ⟨h.1, ?_⟩
 rcases h.2 with q | ⟨g, cap, cur, q1, q2, q3, q4⟩
 ·exact .inl q
 ·refine .inr ⟨g, cap, cur, q1, q2, k.heap q3 ?_, q4⟩
  subst q1; intro e; subst e; exact hn rfl
theorem below_set {w u : World} {n b i : Nat} {v : Value} (h : Below n w u) (hb : n ≤ b) : Below n w (u.setCell ⟨b, i, none⟩ v) := by
 refine ⟨h.os, h.tape, h.output, ?_, fun k hk => ?_⟩
 ·have : (u.setCell ⟨b, i, none⟩ v).heap.size = u.heap.size := by simp [World.setCell]
  rw [this]; exact h.size
 ·rw [← h.block k hk]
  exact Below.heap_setCell _ _ _ _ (by show k ≠ b; omega)
theorem step_append_run {ops : Array Oper} (w : World) {o : Oper} {a : Act} {K : Act → World → Prop} {Q : Exit → Act → World → Prop} {E : Prop} (hgd : o.guard = none) (s x : Operand) (t tn : TypeId)
 (ho : o.op = .call { callee := .builtin .append, args := #[s, x], argTypes := #[t, tn] }) (vs vx : Value) (hs : a.eval s = vs) (hx : a.eval x = vx)
 (v' : Value) (w' : World) (hr : (Builtin.append_ #[t, tn] o.type #[vs, vx]).run Tryz.prog w = .ok v' w') (h : K (a.put o.dst v') w') :
 if Region.wanted o (yielded ops a.tmps) = true then Oper.wp Tryz.prog o a w K Q else E := by
 have hw : Region.wanted o (yielded ops a.tmps) = true := by simp [Region.wanted, hgd]
 rw [if_pos hw]
 exact Lib.wp_append_run w s x t tn ho vs vx hs hx v' w' hr h
section
variable {ops : Array Oper} {rest : List Oper} {o : Oper} {a : Act} {w : World} {Q : Exit → Act → World → Prop}
theorem wpL_app (hgd : o.guard = none) (s x : Operand) (t tn : TypeId)
 (ho : o.op = .call { callee := .builtin .append, args := #[s, x], argTypes := #[t, tn] }) (vs vx : Value) (hs : a.eval s = vs) (hx : a.eval x = vx)
 (v' : Value) (w' : World) (hr : (Builtin.append_ #[t, tn] o.type #[vs, vx]).run Tryz.prog w = .ok v' w') (h : wpList Tryz.prog ops Q rest (a.put o.dst v') w') : wpList Tryz.prog ops Q (o :: rest) a w :=
 wpList_plain hgd fun _ hK => Lib.wp_append_run w s x t tn ho vs vx hs hx v' w' hr (hK _ _ h)
end
section
variable {w w' : World} {N : Nat} {v : Value} {sz : Int} {L : List Int} {cl rt : Bool}
end
theorem inn_succ {l : List Ev} {k : Nat} {x : Ev} (h : l[k]? = some x) (c : Int) : inn l (k + 1) c = ins (inn l k c) c x l[k + 1]? := by simp [inn, h]
theorem put_len (L : List Int) (e : Ev) (nx : Option Ev) : (put L e nx).length ≤ L.length + 1 := by
 unfold put
 split
 ·simp
 ·split
  ·split
   ·simp
   ·simp
  ·simp
theorem mov_len (s : In) (e : Ev) (nx : Option Ev) : (mov s e nx).L.length ≤ s.L.length + 1 := by
 have h := put_len s.L e nx
 unfold mov
 split
 ·split
  ·rename_i h2; rw [h2] at h; simp at h ⊢; omega
  ·simp
 ·exact h
theorem inn_len (l : List Ev) (c : Int) : ∀ k, (inn l k c).L.length ≤ k
 | 0 => Nat.le_refl _
 | k + 1 => by
   have ih := inn_len l c k
   unfold inn
   split
   ·unfold ins
    split
    ·omega
    ·split
     ·have := mov_len (inn l k c) ‹Ev› l[k + 1]?; omega
     ·simp only; omega
   ·omega
end Gu
end Go.Proofs.YtkkgbeaaekmhfaaGreat
namespace Go.Proofs.YtkkgbeaaekmhfaaGreat
open Go.ChangeShapes Go.WideShapes Go.ChangeAt Go.RowKit
namespace Gu
open En Ba
end Gu
end Go.Proofs.YtkkgbeaaekmhfaaGreat
namespace Go.Proofs.YtkkgbeaaekmhfaaGreat
open Go.ChangeShapes Go.WideShapes Go.ChangeAt Go.RowKit
namespace En
open Ba Re
theorem chk1 (g c a v m : Int) (s o : Bool) : chk ⟨1, g, c, a, v, m, s, o⟩ = if s = false ∧ o = false ∧ (0 ≤ g ∧ g ≤ 511) ∧ c = -1 ∧ a = -1 ∧ (0 ≤ v ∧ v ≤ 7) ∧ (0 ≤ m ∧ m ≤ 511) then 0 else 4 := by
 unfold chk
 rw [if_neg (by show ¬ ((1 : Int) < 1 ∨ 13 < (1 : Int)); decide)]
 have h : ((ff ⟨1, g, c, a, v, m, s, o⟩ && okF ⟨1, g, c, a, v, m, s, o⟩) = true) ↔ (s = false ∧ o = false ∧ (0 ≤ g ∧ g ≤ 511) ∧ c = -1 ∧ a = -1 ∧ (0 ≤ v ∧ v ≤ 7) ∧ (0 ≤ m ∧ m ≤ 511)) := by
  cases s <;> cases o <;> simp [ff, okF, okA, spn, inS, fl, nth, List.range, List.range.loop] <;> (try split) <;> (try simp) <;> omega
 by_cases q : s = false ∧ o = false ∧ (0 ≤ g ∧ g ≤ 511) ∧ c = -1 ∧ a = -1 ∧ (0 ≤ v ∧ v ≤ 7) ∧ (0 ≤ m ∧ m ≤ 511)
 ·rw [if_pos q, if_pos (h.2 q)]
 ·rw [if_neg q, if_neg (fun z => q (h.1 z))]
theorem chk2 (g c a v m : Int) (s o : Bool) : chk ⟨2, g, c, a, v, m, s, o⟩ = if s = false ∧ o = false ∧ (0 ≤ g ∧ g ≤ 511) ∧ (0 ≤ c ∧ c ≤ 511) ∧ a = -1 ∧ (0 ≤ v ∧ v ≤ 4) ∧ m = -1 then 0 else 4 := by
 unfold chk
 rw [if_neg (by show ¬ ((2 : Int) < 1 ∨ 13 < (2 : Int)); decide)]
 have h : ((ff ⟨2, g, c, a, v, m, s, o⟩ && okF ⟨2, g, c, a, v, m, s, o⟩) = true) ↔ (s = false ∧ o = false ∧ (0 ≤ g ∧ g ≤ 511) ∧ (0 ≤ c ∧ c ≤ 511) ∧ a = -1 ∧ (0 ≤ v ∧ v ≤ 4) ∧ m = -1) := by
  cases s <;> cases o <;> simp [ff, okF, okA, spn, inS, fl, nth, List.range, List.range.loop] <;> (try split) <;> (try simp) <;> omega
 by_cases q : s = false ∧ o = false ∧ (0 ≤ g ∧ g ≤ 511) ∧ (0 ≤ c ∧ c ≤ 511) ∧ a = -1 ∧ (0 ≤ v ∧ v ≤ 4) ∧ m = -1
 ·rw [if_pos q, if_pos (h.2 q)]
 ·rw [if_neg q, if_neg (fun z => q (h.1 z))]
theorem chk3 (g c a v m : Int) (s o : Bool) : chk ⟨3, g, c, a, v, m, s, o⟩ = if s = true ∧ o = false ∧ (0 ≤ g ∧ g ≤ 511) ∧ (0 ≤ c ∧ c ≤ 511) ∧ (-1 ≤ a ∧ a ≤ 3) ∧ (0 ≤ v ∧ v ≤ 99) ∧ (-1 ≤ m ∧ m ≤ 511) then 0 else 4 := by
 unfold chk
 rw [if_neg (by show ¬ ((3 : Int) < 1 ∨ 13 < (3 : Int)); decide)]
 have h : ((ff ⟨3, g, c, a, v, m, s, o⟩ && okF ⟨3, g, c, a, v, m, s, o⟩) = true) ↔ (s = true ∧ o = false ∧ (0 ≤ g ∧ g ≤ 511) ∧ (0 ≤ c ∧ c ≤ 511) ∧ (-1 ≤ a ∧ a ≤ 3) ∧ (0 ≤ v ∧ v ≤ 99) ∧ (-1 ≤ m ∧ m ≤ 511)) := by
  cases s <;> cases o <;> simp [ff, okF, okA, spn, inS, fl, nth, vm, ml, mh, List.range, List.range.loop] <;> (try split) <;> (try simp) <;> omega
 by_cases q : s = true ∧ o = false ∧ (0 ≤ g ∧ g ≤ 511) ∧ (0 ≤ c ∧ c ≤ 511) ∧ (-1 ≤ a ∧ a ≤ 3) ∧ (0 ≤ v ∧ v ≤ 99) ∧ (-1 ≤ m ∧ m ≤ 511)
 ·rw [if_pos q, if_pos (h.2 q)]
 ·rw [if_neg q, if_neg (fun z => q (h.1 z))]
theorem chk4 (g c a v m : Int) (s o : Bool) : chk ⟨4, g, c, a, v, m, s, o⟩ = if s = false ∧ (0 ≤ g ∧ g ≤ 511) ∧ (0 ≤ c ∧ c ≤ 511) ∧ (-1 ≤ a ∧ a ≤ 3) ∧ (0 ≤ v ∧ v ≤ 99) ∧ (-1 ≤ m ∧ m ≤ 511) ∧ (o = true ∨ v = 0 ∧ m = -1) then 0 else 4 := by
 unfold chk
 rw [if_neg (by show ¬ ((4 : Int) < 1 ∨ 13 < (4 : Int)); decide)]
 have h : ((ff ⟨4, g, c, a, v, m, s, o⟩ && okF ⟨4, g, c, a, v, m, s, o⟩) = true) ↔ (s = false ∧ (0 ≤ g ∧ g ≤ 511) ∧ (0 ≤ c ∧ c ≤ 511) ∧ (-1 ≤ a ∧ a ≤ 3) ∧ (0 ≤ v ∧ v ≤ 99) ∧ (-1 ≤ m ∧ m ≤ 511) ∧ (o = true ∨ v = 0 ∧ m = -1)) := by
  cases s <;> cases o <;> simp [ff, okF, okA, spn, inS, fl, nth, vm, ml, mh, List.range, List.range.loop] <;> (try split) <;> (try simp) <;> omega
 by_cases q : s = false ∧ (0 ≤ g ∧ g ≤ 511) ∧ (0 ≤ c ∧ c ≤ 511) ∧ (-1 ≤ a ∧ a ≤ 3) ∧ (0 ≤ v ∧ v ≤ 99) ∧ (-1 ≤ m ∧ m ≤ 511) ∧ (o = true ∨ v = 0 ∧ m = -1)
 ·rw [if_pos q, if_pos (h.2 q)]
 ·rw [if_neg q, if_neg (fun z => q (h.1 z))]
theorem chk5 (g c a v m : Int) (s o : Bool) : chk ⟨5, g, c, a, v, m, s, o⟩ = if s = false ∧ o = false ∧ (0 ≤ g ∧ g ≤ 511) ∧ (0 ≤ c ∧ c ≤ 511) ∧ a = -1 ∧ v = -1 ∧ m = -1 then 0 else 4 := by
 unfold chk
 rw [if_neg (by show ¬ ((5 : Int) < 1 ∨ 13 < (5 : Int)); decide)]
 have h : ((ff ⟨5, g, c, a, v, m, s, o⟩ && okF ⟨5, g, c, a, v, m, s, o⟩) = true) ↔ (s = false ∧ o = false ∧ (0 ≤ g ∧ g ≤ 511) ∧ (0 ≤ c ∧ c ≤ 511) ∧ a = -1 ∧ v = -1 ∧ m = -1) := by
  cases s <;> cases o <;> simp [ff, okF, okA, spn, inS, fl, nth, List.range, List.range.loop] <;> (try split) <;> (try simp) <;> omega
 by_cases q : s = false ∧ o = false ∧ (0 ≤ g ∧ g ≤ 511) ∧ (0 ≤ c ∧ c ≤ 511) ∧ a = -1 ∧ v = -1 ∧ m = -1
 ·rw [if_pos q, if_pos (h.2 q)]
 ·rw [if_neg q, if_neg (fun z => q (h.1 z))]
theorem chk6 (g c a v m : Int) (s o : Bool) : chk ⟨6, g, c, a, v, m, s, o⟩ = if o = false ∧ (0 ≤ g ∧ g ≤ 511) ∧ (a = -1 ∧ (-1 ≤ c ∧ c ≤ 511) ∧ (s = true ∧ (0 ≤ v ∧ v ≤ 99) ∨ s = false ∧ v = 0) ∨ (0 ≤ a ∧ a ≤ 4) ∧ c = -1 ∧ s = false ∧ v = 0) ∧ m = -1 then 0 else 4 := by
 unfold chk
 rw [if_neg (by show ¬ ((6 : Int) < 1 ∨ 13 < (6 : Int)); decide)]
 have h : ((ff ⟨6, g, c, a, v, m, s, o⟩ && okF ⟨6, g, c, a, v, m, s, o⟩) = true) ↔ (o = false ∧ (0 ≤ g ∧ g ≤ 511) ∧ (a = -1 ∧ (-1 ≤ c ∧ c ≤ 511) ∧ (s = true ∧ (0 ≤ v ∧ v ≤ 99) ∨ s = false ∧ v = 0) ∨ (0 ≤ a ∧ a ≤ 4) ∧ c = -1 ∧ s = false ∧ v = 0) ∧ m = -1) := by
  cases s <;> cases o <;> simp [ff, okF, okA, spn, inS, fl, nth, vm, List.range, List.range.loop] <;> (try split) <;> (try simp) <;> omega
 by_cases q : o = false ∧ (0 ≤ g ∧ g ≤ 511) ∧ (a = -1 ∧ (-1 ≤ c ∧ c ≤ 511) ∧ (s = true ∧ (0 ≤ v ∧ v ≤ 99) ∨ s = false ∧ v = 0) ∨ (0 ≤ a ∧ a ≤ 4) ∧ c = -1 ∧ s = false ∧ v = 0) ∧ m = -1
 ·rw [if_pos q, if_pos (h.2 q)]
 ·rw [if_neg q, if_neg (fun z => q (h.1 z))]
theorem chk7 (g c a v m : Int) (s o : Bool) : chk ⟨7, g, c, a, v, m, s, o⟩ = if (0 ≤ g ∧ g ≤ 511) ∧ (0 ≤ c ∧ c ≤ 511) ∧ (-1 ≤ a ∧ a ≤ 3) ∧ (0 ≤ v ∧ v ≤ 99) ∧ (0 ≤ m ∧ m ≤ 511) ∧ (o = true ∨ s = false ∧ v = 0) then 0 else 4 := by
 unfold chk
 rw [if_neg (by show ¬ ((7 : Int) < 1 ∨ 13 < (7 : Int)); decide)]
 have h : ((ff ⟨7, g, c, a, v, m, s, o⟩ && okF ⟨7, g, c, a, v, m, s, o⟩) = true) ↔ ((0 ≤ g ∧ g ≤ 511) ∧ (0 ≤ c ∧ c ≤ 511) ∧ (-1 ≤ a ∧ a ≤ 3) ∧ (0 ≤ v ∧ v ≤ 99) ∧ (0 ≤ m ∧ m ≤ 511) ∧ (o = true ∨ s = false ∧ v = 0)) := by
  cases s <;> cases o <;> simp [ff, okF, okA, spn, inS, fl, nth, vm, ml, mh, List.range, List.range.loop] <;> (try split) <;> (try simp) <;> omega
 by_cases q : (0 ≤ g ∧ g ≤ 511) ∧ (0 ≤ c ∧ c ≤ 511) ∧ (-1 ≤ a ∧ a ≤ 3) ∧ (0 ≤ v ∧ v ≤ 99) ∧ (0 ≤ m ∧ m ≤ 511) ∧ (o = true ∨ s = false ∧ v = 0)
 ·rw [if_pos q, if_pos (h.2 q)]
 ·rw [if_neg q, if_neg (fun z => q (h.1 z))]
theorem chk8 (g c a v m : Int) (s o : Bool) : chk ⟨8, g, c, a, v, m, s, o⟩ = if s = false ∧ o = false ∧ (0 ≤ g ∧ g ≤ 511) ∧ c = -1 ∧ a = -1 ∧ v = -1 ∧ m = -1 then 0 else 4 := by
 unfold chk
 rw [if_neg (by show ¬ ((8 : Int) < 1 ∨ 13 < (8 : Int)); decide)]
 have h : ((ff ⟨8, g, c, a, v, m, s, o⟩ && okF ⟨8, g, c, a, v, m, s, o⟩) = true) ↔ (s = false ∧ o = false ∧ (0 ≤ g ∧ g ≤ 511) ∧ c = -1 ∧ a = -1 ∧ v = -1 ∧ m = -1) := by
  cases s <;> cases o <;> simp [ff, okF, okA, spn, inS, fl, nth, List.range, List.range.loop] <;> (try split) <;> (try simp) <;> omega
 by_cases q : s = false ∧ o = false ∧ (0 ≤ g ∧ g ≤ 511) ∧ c = -1 ∧ a = -1 ∧ v = -1 ∧ m = -1
 ·rw [if_pos q, if_pos (h.2 q)]
 ·rw [if_neg q, if_neg (fun z => q (h.1 z))]
theorem chk9 (g c a v m : Int) (s o : Bool) : chk ⟨9, g, c, a, v, m, s, o⟩ = if s = false ∧ o = false ∧ (0 ≤ g ∧ g ≤ 511) ∧ c = -1 ∧ a = -1 ∧ (0 ≤ v ∧ v ≤ 7) ∧ m = -1 then 0 else 4 := by
 unfold chk
 rw [if_neg (by show ¬ ((9 : Int) < 1 ∨ 13 < (9 : Int)); decide)]
 have h : ((ff ⟨9, g, c, a, v, m, s, o⟩ && okF ⟨9, g, c, a, v, m, s, o⟩) = true) ↔ (s = false ∧ o = false ∧ (0 ≤ g ∧ g ≤ 511) ∧ c = -1 ∧ a = -1 ∧ (0 ≤ v ∧ v ≤ 7) ∧ m = -1) := by
  cases s <;> cases o <;> simp [ff, okF, okA, spn, inS, fl, nth, List.range, List.range.loop] <;> (try split) <;> (try simp) <;> omega
 by_cases q : s = false ∧ o = false ∧ (0 ≤ g ∧ g ≤ 511) ∧ c = -1 ∧ a = -1 ∧ (0 ≤ v ∧ v ≤ 7) ∧ m = -1
 ·rw [if_pos q, if_pos (h.2 q)]
 ·rw [if_neg q, if_neg (fun z => q (h.1 z))]
theorem chk10 (g c a v m : Int) (s o : Bool) : chk ⟨10, g, c, a, v, m, s, o⟩ = if s = false ∧ o = false ∧ (0 ≤ g ∧ g ≤ 511) ∧ c = -1 ∧ a = -1 ∧ (0 ≤ v ∧ v ≤ 7) ∧ m = -1 then 0 else 4 := by
 unfold chk
 rw [if_neg (by show ¬ ((10 : Int) < 1 ∨ 13 < (10 : Int)); decide)]
 have h : ((ff ⟨10, g, c, a, v, m, s, o⟩ && okF ⟨10, g, c, a, v, m, s, o⟩) = true) ↔ (s = false ∧ o = false ∧ (0 ≤ g ∧ g ≤ 511) ∧ c = -1 ∧ a = -1 ∧ (0 ≤ v ∧ v ≤ 7) ∧ m = -1) := by
  cases s <;> cases o <;> simp [ff, okF, okA, spn, inS, fl, nth, List.range, List.range.loop] <;> (try split) <;> (try simp) <;> omega
 by_cases q : s = false ∧ o = false ∧ (0 ≤ g ∧ g ≤ 511) ∧ c = -1 ∧ a = -1 ∧ (0 ≤ v ∧ v ≤ 7) ∧ m = -1
 ·rw [if_pos q, if_pos (h.2 q)]
 ·rw [if_neg q, if_neg (fun z => q (h.1 z))]
theorem chk11 (g c a v m : Int) (s o : Bool) : chk ⟨11, g, c, a, v, m, s, o⟩ = if s = false ∧ o = false ∧ (0 ≤ g ∧ g ≤ 511) ∧ c = -1 ∧ a = -1 ∧ v = -1 ∧ m = -1 then 0 else 4 := by
 unfold chk
 rw [if_neg (by show ¬ ((11 : Int) < 1 ∨ 13 < (11 : Int)); decide)]
 have h : ((ff ⟨11, g, c, a, v, m, s, o⟩ && okF ⟨11, g, c, a, v, m, s, o⟩) = true) ↔ (s = false ∧ o = false ∧ (0 ≤ g ∧ g ≤ 511) ∧ c = -1 ∧ a = -1 ∧ v = -1 ∧ m = -1) := by
  cases s <;> cases o <;> simp [ff, okF, okA, spn, inS, fl, nth, List.range, List.range.loop] <;> (try split) <;> (try simp) <;> omega
 by_cases q : s = false ∧ o = false ∧ (0 ≤ g ∧ g ≤ 511) ∧ c = -1 ∧ a = -1 ∧ v = -1 ∧ m = -1
 ·rw [if_pos q, if_pos (h.2 q)]
 ·rw [if_neg q, if_neg (fun z => q (h.1 z))]
theorem chk12 (g c a v m : Int) (s o : Bool) : chk ⟨12, g, c, a, v, m, s, o⟩ = if s = false ∧ o = false ∧ (0 ≤ g ∧ g ≤ 511) ∧ c = -1 ∧ a = -1 ∧ v = -1 ∧ m = -1 then 0 else 4 := by
 unfold chk
 rw [if_neg (by show ¬ ((12 : Int) < 1 ∨ 13 < (12 : Int)); decide)]
 have h : ((ff ⟨12, g, c, a, v, m, s, o⟩ && okF ⟨12, g, c, a, v, m, s, o⟩) = true) ↔ (s = false ∧ o = false ∧ (0 ≤ g ∧ g ≤ 511) ∧ c = -1 ∧ a = -1 ∧ v = -1 ∧ m = -1) := by
  cases s <;> cases o <;> simp [ff, okF, okA, spn, inS, fl, nth, List.range, List.range.loop] <;> (try split) <;> (try simp) <;> omega
 by_cases q : s = false ∧ o = false ∧ (0 ≤ g ∧ g ≤ 511) ∧ c = -1 ∧ a = -1 ∧ v = -1 ∧ m = -1
 ·rw [if_pos q, if_pos (h.2 q)]
 ·rw [if_neg q, if_neg (fun z => q (h.1 z))]
theorem chk13 (g c a v m : Int) (s o : Bool) : chk ⟨13, g, c, a, v, m, s, o⟩ = if s = false ∧ o = false ∧ g = -1 ∧ c = -1 ∧ a = -1 ∧ v = -1 ∧ m = -1 then 0 else 4 := by
 unfold chk
 rw [if_neg (by show ¬ ((13 : Int) < 1 ∨ 13 < (13 : Int)); decide)]
 have h : ((ff ⟨13, g, c, a, v, m, s, o⟩ && okF ⟨13, g, c, a, v, m, s, o⟩) = true) ↔ (s = false ∧ o = false ∧ g = -1 ∧ c = -1 ∧ a = -1 ∧ v = -1 ∧ m = -1) := by
  cases s <;> cases o <;> simp [ff, okF, okA, spn, inS, fl, nth, List.range, List.range.loop] <;> (try split) <;> (try simp) <;> omega
 by_cases q : s = false ∧ o = false ∧ g = -1 ∧ c = -1 ∧ a = -1 ∧ v = -1 ∧ m = -1
 ·rw [if_pos q, if_pos (h.2 q)]
 ·rw [if_neg q, if_neg (fun z => q (h.1 z))]
end En
end Go.Proofs.YtkkgbeaaekmhfaaGreat
namespace Go.Proofs.YtkkgbeaaekmhfaaGreat
open Go.ChangeShapes Go.WideShapes Go.ChangeAt Go.RowKit
namespace En
open Ba Re
end En
end Go.Proofs.YtkkgbeaaekmhfaaGreat
namespace Go.Proofs.YtkkgbeaaekmhfaaGreat
open Go.ChangeShapes Go.WideShapes Go.ChangeAt Go.RowKit
namespace En
open Ba Re
end En
end Go.Proofs.YtkkgbeaaekmhfaaGreat
namespace Go.Proofs.YtkkgbeaaekmhfaaGreat
open Go.ChangeShapes Go.WideShapes Go.ChangeAt Go.RowKit
namespace En
open Ba Re
end En
end Go.Proofs.YtkkgbeaaekmhfaaGreat
namespace Go.Proofs.YtkkgbeaaekmhfaaGreat
open Go.ChangeShapes Go.WideShapes Go.ChangeAt Go.RowKit
namespace En
open Ba Re
end En
end Go.Proofs.YtkkgbeaaekmhfaaGreat
namespace Go.Proofs.YtkkgbeaaekmhfaaGreat
open Go.ChangeShapes Go.WideShapes Go.ChangeAt Go.RowKit
namespace En
open Ba Re
end En
end Go.Proofs.YtkkgbeaaekmhfaaGreat
namespace Go.Proofs.YtkkgbeaaekmhfaaGreat
open Go.ChangeShapes Go.WideShapes Go.ChangeAt Go.RowKit
namespace En
open Ba Re
end En
end Go.Proofs.YtkkgbeaaekmhfaaGreat
namespace Go.Proofs.YtkkgbeaaekmhfaaGreat
open Go.ChangeShapes Go.WideShapes Go.ChangeAt Go.RowKit
namespace En
open Ba Re
end En
end Go.Proofs.YtkkgbeaaekmhfaaGreat
namespace Go.Proofs.YtkkgbeaaekmhfaaGreat
open Go.ChangeShapes Go.WideShapes Go.ChangeAt Go.RowKit
namespace En
open Ba Re
end En
end Go.Proofs.YtkkgbeaaekmhfaaGreat
namespace Go.Proofs.YtkkgbeaaekmhfaaGreat
open Go.ChangeShapes Go.WideShapes Go.ChangeAt Go.RowKit
namespace En
open Ba Re
end En
end Go.Proofs.YtkkgbeaaekmhfaaGreat
namespace Go.Proofs.YtkkgbeaaekmhfaaGreat
open Go.ChangeShapes Go.WideShapes Go.ChangeAt Go.RowKit
namespace Gu
open En Ba
def Chk (l : List Ev) (n a : Int) : Prop :=
 (∃ (i : Nat) (e : Ev), l[i]? = some e ∧ ruleD l i e ≠ 0 ∧ n = ruleD l i e ∧ a = (i : Int) ∧ ∀ j, j < i → ∀ x, l[j]? = some x → ruleD l j x = 0) ∨
 ((∀ j x, l[j]? = some x → ruleD l j x = 0) ∧ (n, a) = if l.getLast?.any serves = true then (4, (l.length : Int)) else (0, 0))
theorem Chk.eq {l : List Ev} {n a n' a' : Int} (h : Chk l n a) (h' : Chk l n' a') : n = n' ∧ a = a' := by
 rcases h with ⟨i, e, he, hn, rfl, rfl, hj⟩ | ⟨ha, hr⟩ <;> rcases h' with ⟨i', e', he', hn', rfl, rfl, hj'⟩ | ⟨ha', hr'⟩
 ·have : i = i' := by
   rcases Nat.lt_trichotomy i i' with q | q | q
   ·exact absurd (hj' i q e he) hn
   ·exact q
   ·exact absurd (hj i' q e' he') hn'
  subst this
  rw [he] at he'
  cases he'
  exact ⟨rfl, rfl⟩
 ·exact absurd (ha' i e he) hn
 ·exact absurd (ha i' e' he') hn'
 ·rw [← hr'] at hr
  exact ⟨congrArg Prod.fst hr, congrArg Prod.snd hr⟩
theorem ruleD_of (l : List Ev) (i : Nat) (e : Ev) (b2 b3 b4 b5 b6 : Bool) (hi : i < 2000) (h2 : crew (l.take i) e = b2) (h3 : made (l.take i) e = b3) (h4 : served (l.take i).reverse e = b4) (h5 : ordered (inn l i e.c) e l[i + 1]? = b5) (h6 : closedF (inn l i e.c) e = b6) :
 ruleD l i e = if chk e ≠ 0 then 1 else if b2 = false then 2 else if b3 = false then 3 else if b4 = false then 4 else if b5 = false then 5 else if b6 = false then 6 else 0 := by
 unfold ruleD
 rw [h2, h3, h4, h5, h6]
 by_cases h : chk e ≠ 0
 ·rw [if_pos (.inr h), if_pos h]
 ·rw [if_neg (fun q => q.elim (fun q => by omega) h), if_neg h]
end Gu
end Go.Proofs.YtkkgbeaaekmhfaaGreat
namespace Go.Proofs.YtkkgbeaaekmhfaaGreat
open Go.ChangeShapes Go.WideShapes Go.ChangeAt Go.RowKit
namespace Gu
open En Ba
open Go.Maps (Keyed int_keyed keyOf_int_mk)
structure Sv where
 nil : Bool
 b : Nat
 o : Nat
 n : Nat
 c : Nat
 cap : Int
 cl : Bool
def svs (x : Sv) : Value := if x.nil = true then .slice none 0 0 else .slice (some ⟨x.b, x.o, none⟩) x.n x.c
def chV (x : Sv) : Value := .agg #[.int .i64 x.cap, svs x, .bool x.cl]
def chD (x : Sv) : DataW Unit := .agg [.lit (.int .i64 x.cap), .lit (.bool x.nil), .lit (.int .i64 (x.b : Int)), .lit (.int .i64 (x.o : Int)), .lit (.int .i64 (x.n : Int)), .lit (.int .i64 (x.c : Int)), .lit (.bool x.cl)]
def sv0 : Sv := ⟨true, 0, 0, 0, 0, 0, false⟩
def mE : Value → Option (DataW Unit × List MemPlace)
 | .agg a => match a.toList with
   | [.int .i64 cap, .slice none 0 0, .bool cl] => some (chD ⟨true, 0, 0, 0, 0, cap, cl⟩, [])
   | [.int .i64 cap, .slice (some ⟨b, o, none⟩) n c, .bool cl] => some (chD ⟨false, b, o, n, c, cap, cl⟩, [])
   | _ => none
 | _ => none
def Sn (x : Sv) : Prop := x.nil = true → x.b = 0 ∧ x.o = 0 ∧ x.n = 0 ∧ x.c = 0
theorem mE_v {x : Sv} (h : Sn x) : mE (chV x) = some (chD x, []) := by
 obtain ⟨nl, b, o, n, c, cap, cl⟩ := x
 cases nl
 ·rfl
 ·obtain ⟨rfl, rfl, rfl, rfl⟩ := h rfl
  rfl
theorem chD_inj {x y : Sv} (h : chD x = chD y) : x = y := by
 obtain ⟨nl, b, o, n, c, cap, cl⟩ := x
 obtain ⟨nl', b', o', n', c', cap', cl'⟩ := y
 unfold chD at h
 simp at h
 obtain ⟨h1, h2, h3, h4, h5, h6, h7⟩ := h
 simp only [Sv.mk.injEq]
 exact ⟨h2, by omega, by omega, by omega, by omega, h1, h7⟩
theorem mE_inv {v : Value} {x : Sv} {ps : List MemPlace} (h : mE v = some (chD x, ps)) : v = chV x ∧ Sn x := by
 unfold mE at h
 split at h
 ·rename_i a
  split at h
  ·rename_i cap cl he
   simp only [Option.some.injEq, Prod.mk.injEq] at h
   have := chD_inj h.1
   subst this
   refine ⟨?_, fun _ => ⟨rfl, rfl, rfl, rfl⟩⟩
   unfold chV svs
   congr 1
   exact Array.ext' (by rw [he]; rfl)
  ·rename_i cap b o n c cl he
   simp only [Option.some.injEq, Prod.mk.injEq] at h
   have := chD_inj h.1
   subst this
   refine ⟨?_, fun h => by cases h⟩
   unfold chV svs
   congr 1
   exact Array.ext' (by rw [he]; rfl)
  ·cases h
 ·cases h
theorem law : Keyed Tryz.prog 3 := int_keyed Tryz.underlying3
theorem info_ch : (Tryz.prog.info? 83).map (fun i => (i.zero, i.size)) = some (some (chV sv0), 3) := by kernel_rfl
theorem zero_ch (w : World) : (zeroValue 83).run Tryz.prog w = .ok (chV sv0) w := (zero_of_info info_ch).1 w
theorem mE_z : mE (chV sv0) = some (chD sv0, []) := rfl
def kl (g : Int) : Lit := .int .i64 g
theorem kl_inj {a b : Int} (h : kl a = kl b) : a = b := by cases h; rfl
theorem key_kl {g : Int} (h : -1 ≤ g ∧ g ≤ 100000) : keyOf Tryz.prog 3 (.int .i64 g) = some (kl g) := keyOf_int_mk Tryz.underlying3 (by simp [Lit.wf, IntKind.min, IntKind.max, IntKind.signed, IntKind.bits]; omega)
theorem lit_key {g : Int} (h : -1 ≤ g ∧ g ≤ 100000) : WideAt.IsKeyLit (kl g) := law.key (key_kl h)
structure MI (D : DataW Unit) (cs : List Sv) : Prop where
 tidy : Maps.Tidy D
 has : ∀ g, Maps.has D (kl g) = decide (0 ≤ g ∧ g < cs.length)
 at_ : ∀ (i : Nat) x z, cs[i]? = some x → D.atKey (kl (i : Int)) z = chD x
 sz : Maps.size D = cs.length
theorem MI.no {D : DataW Unit} {cs : List Sv} (h : MI D cs) {g : Int} (e : ¬ (0 ≤ g ∧ g < cs.length)) (z : DataW Unit) : D.atKey (kl g) z = z := Maps.atKey_of_not_has (by rw [h.has]; exact decide_eq_false e) z
theorem MI.nil : MI (.map []) [] := ⟨Maps.tidy_empty, fun g => by
 rw [decide_eq_false (by simp)]; rfl, fun i x z h => by simp at h, rfl⟩
theorem MI.put {D : DataW Unit} {cs : List Sv} (h : MI D cs) {i : Nat} (hi : i ≤ cs.length) (hb : i ≤ 100000) (x : Sv) : MI (D.put (kl (i : Int)) (chD x)) (if i < cs.length then cs.set i x else cs ++ [x]) := by
 have hk : -1 ≤ (i : Int) ∧ (i : Int) ≤ 100000 := by omega
 have hl : (if i < cs.length then cs.set i x else cs ++ [x]).length = if i < cs.length then cs.length else cs.length + 1 := by split <;> simp
 refine ⟨h.tidy.put (lit_key hk) _, fun g => ?_, fun j y z e => ?_, ?_⟩
 ·rw [hl]
  by_cases q : g = (i : Int)
  ·subst q
   rw [Maps.has_put_same h.tidy.isMap (lit_key hk)]
   symm; apply decide_eq_true
   split <;> omega
  ·rw [Maps.has_put_other (fun e => q (kl_inj e)), h.has, decide_eq_decide]
   split <;> omega
 ·by_cases q : j = i
  ·subst q
   rw [Maps.atKey_put_same h.tidy.isMap (lit_key hk)]
   congr 1
   split at e
   ·rw [List.getElem?_set_self (by assumption)] at e; cases e; rfl
   ·have : j = cs.length := by omega
    subst this
    simp at e; exact e
  ·rw [Maps.atKey_put_other (fun e => q (by have := kl_inj e; omega))]
   refine h.at_ j y z ?_
   split at e
   ·rwa [List.getElem?_set_ne (Ne.symm q)] at e
   ·rwa [List.getElem?_append_left (by have := (List.getElem?_eq_some_iff.1 e).1; simp at this; omega)] at e
 ·rw [hl, Maps.size_put h.tidy, h.has, h.sz]
  by_cases q : i < cs.length
  ·rw [decide_eq_true (by omega), if_pos q]; rfl
  ·rw [decide_eq_false (by omega), if_neg q]; rfl
structure VR (w : World) (N : Nat) (x : Sv) (L : List Int) : Prop where
 sn : Sn x
 len : x.n = L.length
 row : x.nil = false → N ≤ x.b ∧ ∃ cur, w.heap[x.b]? = some (.cells cur 3 (0, 0)) ∧ x.o + x.c ≤ cur.size ∧ x.n ≤ x.c ∧ x.c ≤ maxLen ∧ ∀ i v, L[i]? = some v → cur[x.o + i]? = some (.int .i64 v)
theorem VR.keep {w w' : World} {N : Nat} {x : Sv} {L : List Int} (h : VR w N x L) (hk : x.nil = false → w'.heap[x.b]? = w.heap[x.b]?) : VR w' N x L := by
 refine ⟨h.sn, h.len, fun hn => ?_⟩
 obtain ⟨h1, cur, h2, h3⟩ := h.row hn
 exact ⟨h1, cur, (hk hn).trans h2, h3⟩
theorem VR.zero (w : World) (N : Nat) (cap : Int) (cl : Bool) : VR w N ⟨true, 0, 0, 0, 0, cap, cl⟩ [] := ⟨fun _ => ⟨rfl, rfl, rfl, rfl⟩, rfl, fun h => by cases h⟩
theorem VR.nil_of {w : World} {N : Nat} {x : Sv} {L : List Int} (h : VR w N x L) (hn : x.nil = true) : L = [] := by
 have := h.sn hn
 have hl := h.len
 rw [this.2.2.1] at hl
 exact List.length_eq_zero_iff.1 hl.symm
def tl (x : Sv) : Sv := ⟨x.nil, x.b, if x.c = 1 then x.o else x.o + 1, x.n - 1, x.c - 1, x.cap, x.cl⟩
theorem VR.tail {w : World} {N : Nat} {x : Sv} {y : Int} {r : List Int} (h : VR w N x (y :: r)) : x.nil = false ∧ VR w N (tl x) r := by
 have hn : x.nil = false := by
  cases hq : x.nil
  ·rfl
  ·have := h.nil_of hq; cases this
 refine ⟨hn, ⟨(fun q => by unfold tl at q; simp only at q; rw [hn] at q; cases q), (by have := h.len; unfold tl; simp at this ⊢; omega), fun _ => ?_⟩⟩
 obtain ⟨h1, cur, h2, h3, h4, h5, h6⟩ := h.row hn
 have hl := h.len
 simp at hl
 unfold tl
 refine ⟨h1, cur, h2, ?_, by simp only; omega, by simp only; omega, fun i v hv => ?_⟩
 ·simp only
  split <;> omega
 ·have hil : i < r.length := (List.getElem?_eq_some_iff.1 hv).1
  have := h6 (i + 1) v (by simpa using hv)
  simp only
  rw [if_neg (by omega), Nat.add_assoc, Nat.add_comm 1 i]
  exact this
set_option maxHeartbeats 1600000 in
theorem run_room {w : World} {g o n c : Nat} {cur : Array Value} (hg : w.heap[g]? = some (.cells cur 3 (0, 0))) (hn : n + 1 ≤ c) (hs : o + c ≤ cur.size) (ad : Addr) (m : Nat) (y : Int) (hy : w.cell? (ad.add 0) = some (.int .i64 y)) :
 (Builtin.append_ #[23, 23] 23 #[.slice (some ⟨g, o, none⟩) n c, .slice (some ad) 1 m]).run Tryz.prog w = .ok (.slice (some ⟨g, o, none⟩) (n + 1) c) (w.setCell ⟨g, o + n, none⟩ (.int .i64 y)) := by
 obtain ⟨i0, hi, hz0, hz1, hz2⟩ := info_parts info_int
 have hc : ∃ v, w.cell? ⟨g, o + n, none⟩ = some v := ⟨_, (cell_of hg (o + n)).trans (Array.getElem?_eq_getElem (by omega))⟩
 obtain ⟨v, hc⟩ := hc
 have hf := frozen_of hg (o + n)
 have hst : (store ⟨g, o + n, none⟩ (.int .i64 y)).run Tryz.prog w = .ok () (w.setCell ⟨g, o + n, none⟩ (.int .i64 y)) := by rw [run_store _ _ _ _ _ rfl, hc, hf]; rfl
 simp [Builtin.append_, run_underlying Tryz.underlying23, sizeOf, typeInfo, hi, hz1, Builtin.lenOf, Builtin.firstCells, loadCells, loadCellsFrom, storeCells, hy, hn, Addr.add_lit, hst]
end Gu
end Go.Proofs.YtkkgbeaaekmhfaaGreat
namespace Go.Proofs.YtkkgbeaaekmhfaaGreat
open Go.ChangeShapes Go.WideShapes Go.ChangeAt Go.RowKit
namespace Gu
open En Ba
theorem VR.app {w : World} {N : Nat} {x : Sv} {L : List Int} (h : VR w N x L) (hl : L.length ≤ 4000) (hN : N ≤ w.heap.size) (y : Int) :
 ∃ (x' : Sv) (w' : World), (Builtin.append_ #[23, 23] 23 #[svs x, .slice (some ⟨w.heap.size, 0, none⟩) 1 1]).run Tryz.prog (w.alloc (.cells #[.int .i64 y] 3)) = .ok (svs x') w' ∧ VR w' N x' (L ++ [y]) ∧ x'.nil = false ∧ x'.cap = x.cap ∧ x'.cl = x.cl ∧ (w.alloc (.cells #[.int .i64 y] 3)).grownBy w' (if x.nil = true then none else some x.b) ∧ ((x.nil = false ∧ x'.b = x.b) ∨ x'.b = w.heap.size + 1) ∧ VR w' N x L := by
 obtain ⟨i0, hi, hz0, hz1, hz2⟩ := info_parts info_int
 obtain ⟨nl, b, o, n, c, cap, cl⟩ := x
 have src := cell_one_new w (.int .i64 y) 3
 have hN1 : N ≤ (w.alloc (.cells #[.int .i64 y] 3)).heap.size := by rw [World.size_alloc]; omega
 cases nl
 ·obtain ⟨h1, cur, h2, h3, h4, h5, h6⟩ := h.row rfl
  have hn := h.len
  simp only at h1 h2 h3 h4 h5 h6 hn
  have h2' := heap_below h2 (below_alloc w (.cells #[.int .i64 y] 3))
  show ∃ (x' : Sv) (w' : World), (Builtin.append_ #[23, 23] 23 #[.slice (some ⟨b, o, none⟩) n c, .slice (some ⟨w.heap.size, 0, none⟩) 1 1]).run Tryz.prog (w.alloc (.cells #[.int .i64 y] 3)) = _ ∧ _
  by_cases hroom : n + 1 ≤ c
  ·have hr := run_room h2' hroom h3 ⟨w.heap.size, 0, none⟩ 1 y (src 0 _ rfl)
   refine ⟨⟨false, b, o, n + 1, c, cap, cl⟩, _, hr, ⟨(fun q => by cases q), (by simp [hn]), fun _ => ⟨h1, _, Ba.heap_setCell_same h2' _, by simpa using h3, hroom, h5, fun i v hv => ?_⟩⟩, rfl, rfl, rfl, ?_, .inl ⟨rfl, rfl⟩, ⟨(fun q => by cases q), hn, fun _ => ⟨h1, _, Ba.heap_setCell_same h2' _, by simpa using h3, h4, h5, fun i v hv => by
    show (cur.setIfInBounds (o + n) _)[o + i]? = _
    rw [Array.getElem?_setIfInBounds_ne (by have := (List.getElem?_eq_some_iff.1 hv).1; omega)]
    exact h6 i v hv⟩⟩⟩
   ·show (cur.setIfInBounds (o + n) _)[o + i]? = _
    by_cases hi' : i < L.length
    ·rw [List.getElem?_append_left hi'] at hv
     have := h6 i v hv
     rw [Array.getElem?_setIfInBounds_ne (by omega)]
     exact this
    ·have : i = L.length := by
      have := (List.getElem?_eq_some_iff.1 hv).1
      simp at this; omega
     subst this
     rw [List.getElem?_append_right (Nat.le_refl _), Nat.sub_self] at hv
     simp at hv
     subst hv
     rw [hn, Array.getElem?_setIfInBounds_self_of_lt (by omega)]
   ·refine ⟨rfl, rfl, rfl, by simp [World.setCell], fun k _ hk => ?_⟩
    exact Below.heap_setCell _ _ _ _ (by show k ≠ b; intro e; exact hk (by rw [e]; rfl))
  ·have hcn : c = n := by omega
   have holds : ∀ j u, (ic L)[j]? = some u → (w.alloc (.cells #[.int .i64 y] 3)).cell? ((⟨b, o, none⟩ : Addr).add j) = some u := by
    intro j u hj
    rw [Addr.add_lit, cell_of h2']
    unfold ic at hj
    rw [List.getElem?_map] at hj
    cases hq : L[j]? with
    | none => rw [hq] at hj; cases hj
    | some v => rw [hq] at hj; cases hj; exact h6 j v hq
   have hr := run_append_grow (P := Tryz.prog) (w.alloc (.cells #[.int .i64 y] 3)) 23 23 3 i0 (.int .i64 0) Tryz.underlying23 hi hz0 ⟨b, o, none⟩ n c (ic L) (by rw [ic_len, hz1, hn, Nat.mul_one]) holds ⟨w.heap.size, 0, none⟩ 1 1 [.int .i64 y] (by rw [hz1]; rfl) src (by omega) (by omega) (growslice_fits (by omega) (by rw [hz2]; omega))
   have hge := grownCap_ge (w.alloc (.cells #[.int .i64 y] 3)) (n + 1) c 3
   have hcm := grownCap_le_maxLen (w.alloc (.cells #[.int .i64 y] 3)) (n + 1) c 3 (by unfold maxLen; omega)
   refine ⟨⟨false, w.heap.size + 1, 0, n + 1, grownCap (w.alloc (.cells #[.int .i64 y] 3)) (n + 1) c 3, cap, cl⟩, (w.alloc (.cells #[.int .i64 y] 3)).drew.alloc (.cells ((ic L).toArray ++ [Value.int .i64 y].toArray ++ Builtin.zeroCells (Value.int .i64 0).cells (grownCap (w.alloc (.cells #[.int .i64 y] 3)) (n + 1) c 3 - (n + 1))) 3), hr.trans ?_, ⟨(fun q => by cases q), (by simp [hn]), fun _ => ⟨(by simp only; omega), (ic L).toArray ++ [Value.int .i64 y].toArray ++ Builtin.zeroCells (Value.int .i64 0).cells (grownCap (w.alloc (.cells #[.int .i64 y] 3)) (n + 1) c 3 - (n + 1)), ?_, ?_, hge, hcm, fun i v hv => ?_⟩⟩, rfl, rfl, rfl, ?_, .inr rfl, h.keep fun _ => (heap_below h2' (btr (bdrew1 _) (below_alloc _ _))).trans h2.symm⟩
   ·simp only [World.size_alloc]; rfl
   ·have := heap_alloc_new (w.alloc (.cells #[.int .i64 y] 3)).drew (.cells ((ic L).toArray ++ [Value.int .i64 y].toArray ++ Builtin.zeroCells (Value.int .i64 0).cells (grownCap (w.alloc (.cells #[.int .i64 y] 3)) (n + 1) c 3 - (n + 1))) 3)
    rw [show (w.alloc (.cells #[.int .i64 y] 3)).drew.heap.size = w.heap.size + 1 from World.size_alloc _ _] at this
    exact this
   ·simp only [Array.size_append, List.size_toArray, size_zeroCells, ic_len, List.length_singleton]
    show 0 + _ ≤ _ + 1 + _ * 1
    omega
   ·have e1 : (ic L).toArray ++ [Value.int .i64 y].toArray = (ic (L ++ [y])).toArray := by simp [ic]
    have hil : i < (L ++ [y]).length := (List.getElem?_eq_some_iff.1 hv).1
    simp only [Nat.zero_add]
    rw [e1, Array.getElem?_append_left (by simp [ic]; simpa using hil)]
    simp only [List.getElem?_toArray]
    unfold ic
    rw [List.getElem?_map, hv]
    rfl
   ·exact ⟨rfl, rfl, rfl, by simp, fun k hk _ => (below_alloc (w.alloc (.cells #[.int .i64 y] 3)).drew _).block k hk⟩
 ·obtain ⟨hb, ho, hn, hc⟩ := h.sn rfl
  simp only at hb ho hn hc
  subst hb ho hn hc
  have hL : L = [] := h.nil_of rfl
  subst hL
  obtain ⟨v', w', hr, ho, hg1, -, hat⟩ := run_append_own_at (P := Tryz.prog) (w.alloc (.cells #[.int .i64 y] 3)) N 23 23 3 i0 (.int .i64 0) 1 8 Tryz.underlying23 hi hz0 hz1 hz2 rfl (by decide) (.slice none 0 0) 0 [] (World.ownsRow_nil _ _ _ _) ⟨w.heap.size, 0, none⟩ 1 1 [.int .i64 y] rfl src (ic_one [y]) (by unfold maxLen; omega) (by omega) hN1
  rw [Nat.zero_add, List.nil_append] at ho
  rcases ho.2 with ⟨-, h⟩ | ⟨g, cp, cur, rfl, q1, q2, q3, q4, q5, q6⟩
  ·cases h
  ·refine ⟨⟨false, g, 0, 1, cp, cap, cl⟩, w', hr, ⟨(fun q => by cases q), rfl, fun _ => ⟨q1, cur, q2, by simp only; omega, q3, q4, fun i v hv => ?_⟩⟩, rfl, rfl, rfl, hg1, .inr ?_, h.keep fun q => by cases q⟩
   ·have hi0 : i = 0 := by have := (List.getElem?_eq_some_iff.1 hv).1; simp at this; exact this
    subst hi0
    simp at hv
    subst hv
    have e1 : ([Value.int .i64 y])[0]? = some (.int .i64 y) := rfl
    rw [← q6, List.getElem?_take, if_pos (by omega)] at e1
    simpa using e1
   ·rcases hat with q | q
    ·cases q
    ·simp only [Value.ownBlock, Option.some.injEq, World.size_alloc] at q
     exact q
structure GR (w : World) (N R mb : Nat) (ev vs : Value) (D : DataW Unit) (cs : List Sv) (s : Gs) : Prop where
 hN : N ≤ R ∧ N ≤ mb
 hR : w.heap[R]? = some (.cells #[ev, vs, .map (some mb), .bool s.pn, .int .i64 s.la.k, .int .i64 s.la.g, .int .i64 s.la.c, .int .i64 s.la.a, .int .i64 s.la.v, .int .i64 s.la.m, .bool s.la.s, .bool s.la.o] 51 (0, 0))
 st : w.ownsRow N 3 1 vs s.st.length (ic s.st)
 mp : w.ownsMap Tryz.prog 3 mE mb 100000 D
 mi : MI D cs
 len : cs.length = s.ch.length
 ch : ∀ (i : Nat) x c, cs[i]? = some x → s.ch[i]? = some c → VR w N x c.vs ∧ x.cap = c.cap ∧ x.cl = c.cl
 dj : ∀ (i j : Nat) x y, cs[i]? = some x → cs[j]? = some y → i ≠ j → x.nil = false → y.nil = false → x.b ≠ y.b
 dv : ∀ (i : Nat) x, cs[i]? = some x → x.nil = false → vs.ownBlock ≠ some x.b
def GW (w : World) (N R : Nat) (ev : Value) (s : Gs) : Prop := ∃ mb vs D cs, GR w N R mb ev vs D cs s
theorem mayDo_any (t k : Int) (w : World) :
 Calls Tryz.prog 44 #[.int .i64 t, .int .i64 k] w fun r w' => r = .returned (.bool (may t k)) ∧ w' = w := by
 unfold may
 by_cases h7 : k = 7
 ·have d7 : (k == 7) = true := by simp [h7]
  rw [if_pos h7]
  clear h7
  go_enter Tryz.func44, Tryz.ntmps44
  go_wp2_with fail
  go_ret
  exact ⟨ret_bool (by rw [Bool.eq_iff_iff]; simp), rfl⟩
 ·have d7 : (k == 7) = false := by simp [h7]
  rw [if_neg h7]
  by_cases h12 : k = 12
  ·have d12 : (k == 12) = true := by simp [h12]
   rw [if_pos h12]
   clear h7 h12
   go_enter Tryz.func44, Tryz.ntmps44
   go_wp2_with fail
   go_ret
   exact ⟨ret_bool (by rw [Bool.eq_iff_iff]; simp), rfl⟩
  ·have d12 : (k == 12) = false := by simp [h12]
   rw [if_neg h12]
   clear h7 h12
   go_enter Tryz.func44, Tryz.ntmps44
   go_wp2_with fail
   go_ret
   exact ⟨ret_bool (by rw [Bool.eq_iff_iff]; simp), rfl⟩
theorem owed_any {w : World} {N R : Nat} {ev : Value} {s : Gs} (h : GW w N R ev s) :
 Calls Tryz.prog 25 #[.pointer (some ⟨R, 0, none⟩)] w fun r w' => r = .returned (.bool (owed s.la)) ∧ w' = w := by
 obtain ⟨mb, vs, D, cs, h⟩ := h
 have c4 : w.cell? ⟨R, 4, none⟩ = some (.int .i64 s.la.k) := cell_of h.hR 4
 have c9 : w.cell? ⟨R, 9, none⟩ = some (.int .i64 s.la.m) := cell_of h.hR 9
 clear h
 unfold owed
 generalize s.la.k = k at *
 generalize s.la.m = m at *
 have e3 : decide (k = 3) = (k == 3) := by rw [Bool.eq_iff_iff]; simp
 have e4 : decide (k = 4) = (k == 4) := by rw [Bool.eq_iff_iff]; simp
 have em : decide (m ≠ -1) = (m != -1) := by rw [Bool.eq_iff_iff]; simp
 rw [e3, e4, em]
 clear e3 e4 em
 cases h3 : (k == 3)
 ·cases h4 : (k == 4)
  ·go_enter Tryz.func25, Tryz.ntmps25
   go_wp2_with fail
   go_ret
   exact ⟨rfl, rfl⟩
  ·go_enter Tryz.func25, Tryz.ntmps25
   go_wp2_with fail
   go_ret
   exact ⟨rfl, rfl⟩
 ·go_enter Tryz.func25, Tryz.ntmps25
  go_wp2_with fail
  go_ret
  exact ⟨rfl, rfl⟩
set_option maxHeartbeats 1600000 in
theorem pserves_any (s e : Ev) (w : World) :
 Calls Tryz.prog 45 #[evv s, evv e] w fun r w' => r = .returned (.bool (servP s e)) ∧ Below w.heap.size w w' := by
 have B2 := hide (btr (below_alloc w (.cells (evc s) 35)) (below_alloc _ (.cells (evc e) 35)))
 unfold evv evc at *
 unfold servP
 obtain ⟨k, g, c, a, v, m, z, o⟩ := s
 obtain ⟨k', g', c', a', v', m', z', o'⟩ := e
 simp only at B2 ⊢
 have key : ∀ b1 b2 b3 b4 : Bool, (k' != 7) = b1 → (g' != m) = b2 → (m' != g) = b3 → (c' != c) = b4 → Calls Tryz.prog 45 #[.agg #[.int .i64 k, .int .i64 g, .int .i64 c, .int .i64 a, .int .i64 v, .int .i64 m, .bool z, .bool o], .agg #[.int .i64 k', .int .i64 g', .int .i64 c', .int .i64 a', .int .i64 v', .int .i64 m', .bool z', .bool o']] w fun r w' => r = .returned (.bool (if (b1 || b2 || b3 || b4 || !o') = true then false else if k = 4 then z' else !z' && decide (v' = v))) ∧ Below w.heap.size w w' := by
  intro b1 b2 b3 b4 h1 h2 h3 h4
  cases b1
  ·cases b2
   ·cases b3
    ·cases b4
     ·cases o'
      ·go_enter Tryz.func45, Tryz.ntmps45
       go_wp2_with fail
       go_ret
       exact ⟨rfl, B2.out⟩
      ·by_cases hk : k = 4
       ·have d4 : (k == 4) = true := by simp [hk]
        have hR : (if (false || false || false || false || !true) = true then false else if k = 4 then z' else !z' && decide (v' = v)) = z' := by simp [hk]
        rw [hR]
        clear hk hR
        go_enter Tryz.func45, Tryz.ntmps45
        go_wp2_with fail
        go_ret
        exact ⟨rfl, B2.out⟩
       ·have d4 : (k == 4) = false := by simp [hk]
        have hR : (if (false || false || false || false || !true) = true then false else if k = 4 then z' else !z' && decide (v' = v)) = (!z' && (v' == v)) := by
         rw [if_neg (by simp), if_neg hk]
         congr 1
        rw [hR]
        clear hk hR
        cases z'
        ·go_enter Tryz.func45, Tryz.ntmps45
         go_wp2_with fail
         go_ret
         exact ⟨rfl, B2.out⟩
        ·go_enter Tryz.func45, Tryz.ntmps45
         go_wp2_with fail
         go_ret
         exact ⟨rfl, B2.out⟩
     ·go_enter Tryz.func45, Tryz.ntmps45
      go_wp2_with fail
      go_ret
      exact ⟨rfl, B2.out⟩
    ·go_enter Tryz.func45, Tryz.ntmps45
     go_wp2_with fail
     go_ret
     exact ⟨rfl, B2.out⟩
   ·go_enter Tryz.func45, Tryz.ntmps45
    go_wp2_with fail
    go_ret
    exact ⟨rfl, B2.out⟩
  ·go_enter Tryz.func45, Tryz.ntmps45
   go_wp2_with fail
   go_ret
   exact ⟨rfl, B2.out⟩
 have hK := key _ _ _ _ rfl rfl rfl rfl
 refine hK.mono ?_
 rintro r w' ⟨rfl, b⟩
 refine ⟨ret_bool ?_, b⟩
 congr 1
 apply propext
 simp [or_assoc]
set_option maxHeartbeats 1600000 in
theorem right_any {w : World} {N R c : Nat} {oa : Option Addr} {l : List Ev} {s : Gs} (h : GW w N R (.slice oa l.length c) s) (hA : EsAt w oa l) {i : Nat} {e : Ev} (hi : l[i]? = some e) :
 Calls Tryz.prog 19 #[.pointer (some ⟨R, 0, none⟩), .int .i64 (i : Int)] w fun r w' => r = .returned (.bool (!(decide (2000 ≤ i) || decide (chk e ≠ 0)))) ∧ Below w.heap.size w w' := by
 obtain ⟨mb, vs, D, cs, h⟩ := h
 have hil : i < l.length := (List.getElem?_eq_some_iff.1 hi).1
 obtain ⟨b1, o1, rfl, -⟩ := hA i e hi
 obtain ⟨p0, p1, p2, p3, p4, p5, p6, p7⟩ := hA.read hi
 have c0 : w.cell? ⟨R, 0, none⟩ = some (.slice (some ⟨b1, o1, none⟩) l.length c) := cell_of h.hR 0
 have CK := hide (check_any e w)
 unfold evv evc at CK
 have hiM : (i : Int) < (l.length : Int) := by omega
 obtain ⟨q, hq⟩ : ∃ q, chk e = q := ⟨_, rfl⟩
 rw [hq] at CK ⊢
 clear h hA hi hq
 generalize l.length = M at *
 by_cases h2 : i < 2000
 ·have d1 : decide ((i : Int) < 2000) = true := by simp; omega
  have d2 : decide (i < 2000) = true := by simp; omega
  have hR : (!(decide (2000 ≤ i) || decide (q ≠ 0))) = (q == 0) := by
   rw [show decide (2000 ≤ i) = false from by simp; omega]
   rw [Bool.eq_iff_iff]; simp
  rw [hR]
  clear hR h2
  go_enter Tryz.func19, Tryz.ntmps19
  go_wp2_with fail
  refine CK.out.mono ?_
  rintro r w1 ⟨rfl, b1⟩
  have B1 := hide b1
  clear b1
  go_wp2_with fail
  go_ret
  exact ⟨rfl, B1.out⟩
 ·have d1 : decide ((i : Int) < 2000) = false := by simp; omega
  have d2 : decide (i < 2000) = false := by simp; omega
  have hR : (!(decide (2000 ≤ i) || decide (q ≠ 0))) = false := by
   rw [show decide (2000 ≤ i) = true from by simp; omega]; rfl
  rw [hR]
  clear hR h2
  go_enter Tryz.func19, Tryz.ntmps19
  go_wp2_with fail
  go_ret
  exact ⟨rfl, Below.refl _ _⟩
end Gu
end Go.Proofs.YtkkgbeaaekmhfaaGreat
namespace Go.Proofs.YtkkgbeaaekmhfaaGreat
open Go.ChangeShapes Go.WideShapes Go.ChangeAt Go.RowKit
namespace Gu
open En Ba
section
variable {w w' : World} {N R mb : Nat} {ev vs : Value} {D : DataW Unit} {cs : List Sv} {s : Gs}
theorem GR.below (h : GR w N R mb ev vs D cs s) (b : Below w.heap.size w w') : GR w' N R mb ev vs D cs s := by
 refine ⟨h.hN, heap_below h.hR b, own_below h.st b, ?_, h.mi, h.len, fun i x c hx hc => ?_, h.dj, h.dv⟩
 ·obtain ⟨es, ck, hb, r⟩ := h.mp
  exact ⟨es, ck, heap_below hb b, r⟩
 ·obtain ⟨v, r⟩ := h.ch i x c hx hc
  refine ⟨v.keep fun hn => ?_, r⟩
  obtain ⟨-, cur, hb, -⟩ := v.row hn
  rw [heap_below hb b, hb]
theorem GR.noR (h : GR w N R mb ev vs D cs s) : vs.ownBlock ≠ some R ∧ R ≠ mb ∧ ∀ (i : Nat) x, cs[i]? = some x → x.nil = false → x.b ≠ R := by
 refine ⟨?_, ?_, fun i x hx hn e => ?_⟩
 ·rcases h.st.2 with ⟨rfl, -⟩ | ⟨g, cap, cur, rfl, -, q3, -⟩
  ·intro e; cases e
  ·intro e; cases e; have := h.hR; rw [q3] at this; cases this
 ·intro e
  obtain ⟨es, ck, hb, -⟩ := h.mp
  have := h.hR
  rw [e, hb] at this; cases this
 ·have hil : i < cs.length := (List.getElem?_eq_some_iff.1 hx).1
  obtain ⟨c, hc⟩ : ∃ c, s.ch[i]? = some c := ⟨_, List.getElem?_eq_getElem (by rw [← h.len]; exact hil)⟩
  obtain ⟨-, cur, hb, -⟩ := (h.ch i x c hx hc).1.row hn
  have := h.hR
  rw [← e, hb] at this; cases this
theorem GR.setR (h : GR w N R mb ev vs D cs s) (k : KB R w w') {s' : Gs} {vs' : Value} (hR : w'.heap[R]? = some (.cells #[ev, vs', .map (some mb), .bool s'.pn, .int .i64 s'.la.k, .int .i64 s'.la.g, .int .i64 s'.la.c, .int .i64 s'.la.a, .int .i64 s'.la.v, .int .i64 s'.la.m, .bool s'.la.s, .bool s'.la.o] 51 (0, 0))) (hv : vs' = vs) (hst : s'.st = s.st) (hch : s'.ch = s.ch) : GR w' N R mb ev vs' D cs s' := by
 subst hv
 obtain ⟨n1, n2, n3⟩ := h.noR
 refine ⟨h.hN, hR, by rw [hst]; exact own_kb h.st k n1, ?_, h.mi, by rw [hch]; exact h.len, fun i x c hx hc => ?_, h.dj, h.dv⟩
 ·obtain ⟨es, ck, hb, r⟩ := h.mp
  exact ⟨es, ck, k.heap hb (Ne.symm n2), r⟩
 ·rw [hch] at hc
  obtain ⟨v, r⟩ := h.ch i x c hx hc
  refine ⟨v.keep fun hn => ?_, r⟩
  obtain ⟨-, cur, hb, -⟩ := v.row hn
  rw [k.heap hb (n3 i x hx hn), hb]
theorem own_set_at {g cap : Nat} {L : List Int} (h : w.ownsRow N 3 1 (.slice (some ⟨g, 0, none⟩) L.length cap) L.length (ic L)) (j : Nat) (y : Int) : (w.setCell ⟨g, j, none⟩ (.int .i64 y)).ownsRow N 3 1 (.slice (some ⟨g, 0, none⟩) L.length cap) (L.set j y).length (ic (L.set j y)) := by
 rcases h.2 with ⟨e, -⟩ | ⟨g', cap', cur, e, q1, q2, q3, q4, q5, q6⟩
 ·cases e
 ·cases e
  refine ⟨by rw [ic_len, Nat.mul_one], .inr ⟨g, cap, _, by rw [List.length_set], q1, Ba.heap_setCell_same q2 _, by rw [List.length_set]; exact q3, q4, by simpa using q5, ?_⟩⟩
  rw [List.length_set]
  unfold ic
  rw [List.map_set]
  have : (cur.setIfInBounds j (.int .i64 y)).toList = cur.toList.set j (.int .i64 y) := by simp
  rw [this, List.take_set, q6]
  rfl
theorem own_st_cell {g cap : Nat} {L : List Int} (h : w.ownsRow N 3 1 (.slice (some ⟨g, 0, none⟩) L.length cap) L.length (ic L)) (j : Nat) (hj : j < L.length) : w.cell? ⟨g, j, none⟩ = some (.int .i64 (L.getD j 0)) ∧ w.frozen? ⟨g, j, none⟩ = false ∧ N ≤ g := by
 rcases h.2 with ⟨e, -⟩ | ⟨g', cap', cur, e, q1, q2, q3, q4, q5, q6⟩
 ·cases e
 ·cases e
  refine ⟨?_, frozen_of q2 j, q1⟩
  rw [cell_of q2]
  have e1 : (ic L)[j]? = some (.int .i64 (L.getD j 0)) := by simp [ic, List.getElem?_eq_getElem hj, List.getD_eq_getElem?_getD]
  rw [← q6, List.getElem?_take, if_pos (by omega)] at e1
  simpa using e1
theorem GR.set {g cap : Nat} (h : GR w N R mb ev (.slice (some ⟨g, 0, none⟩) s.st.length cap) D cs s) (j : Nat) (y : Int) : GR (w.setCell ⟨g, j, none⟩ (.int .i64 y)) N R mb ev (.slice (some ⟨g, 0, none⟩) s.st.length cap) D cs { s with st := s.st.set j y } := by
 have K := (KB.refl g w).setCell j (.int .i64 y)
 have nR : R ≠ g := fun e => h.noR.1 (by rw [e]; rfl)
 refine ⟨h.hN, K.heap h.hR nR, own_set_at h.st j y, ?_, h.mi, h.len, fun i x c hx hc => ?_, h.dj, h.dv⟩
 ·obtain ⟨es, ck, hb, r⟩ := h.mp
  refine ⟨es, ck, K.heap hb ?_, r⟩
  rintro rfl
  rcases h.st.2 with ⟨e, -⟩ | ⟨g', cap', cur, e, -, q3, -⟩
  ·cases e
  ·cases e; rw [hb] at q3; cases q3
 ·obtain ⟨v, r⟩ := h.ch i x c hx hc
  refine ⟨v.keep fun hn => ?_, r⟩
  obtain ⟨-, cur, hb, -⟩ := v.row hn
  have := h.dv i x hx hn
  rw [K.heap hb (fun e => this (by rw [e]; rfl)), hb]
theorem GR.row (h : GR w N R mb ev vs D cs s) {w1 : World} (hg : w.grownBy w1 vs.ownBlock) {v' : Value} {L : List Int} (ho : w1.ownsRow N 3 1 v' L.length (ic L)) (hat : v'.ownBlock = vs.ownBlock ∨ v'.ownBlock = some w.heap.size) : GR (w1.setCell ⟨R, 1, none⟩ v') N R mb ev v' D cs { s with st := L } := by
 obtain ⟨n1, n2, n3⟩ := h.noR
 have K := (KB.refl R w1).setCell 1 v'
 have g1 : ∀ {b : Nat} {o : Obj}, w.heap[b]? = some o → vs.ownBlock ≠ some b → w1.heap[b]? = some o := fun hb hn => (hg.block _ (heap_lt hb) (fun e => hn e.symm)).trans hb
 have hR1 := g1 h.hR n1
 have nv : v'.ownBlock ≠ some R := by
  rcases hat with q | q
  ·rw [q]; exact n1
  ·rw [q]; intro e; injection e with e; have := heap_lt h.hR; omega
 refine ⟨h.hN, Ba.heap_setCell_same hR1 _, own_kb ho K nv, ?_, h.mi, h.len, fun i x c hx hc => ?_, h.dj, fun i x hx hn => ?_⟩
 ·obtain ⟨es, ck, hb, r⟩ := h.mp
  refine ⟨es, ck, K.heap (g1 hb ?_) (Ne.symm n2), r⟩
  intro e
  rcases h.st.2 with ⟨rfl, -⟩ | ⟨g', cap', cur, rfl, -, q3, -⟩
  ·cases e
  ·cases e; rw [hb] at q3; cases q3
 ·obtain ⟨v, r⟩ := h.ch i x c hx hc
  refine ⟨v.keep fun hn => ?_, r⟩
  obtain ⟨-, cur, hb, -⟩ := v.row hn
  rw [K.heap (g1 hb (h.dv i x hx hn)) (n3 i x hx hn), hb]
 ·rcases hat with q | q
  ·rw [q]; exact h.dv i x hx hn
  ·rw [q]; intro e; injection e with e
   have hil : i < cs.length := (List.getElem?_eq_some_iff.1 hx).1
   obtain ⟨c, hc⟩ : ∃ c, s.ch[i]? = some c := ⟨_, List.getElem?_eq_getElem (by rw [← h.len]; exact hil)⟩
   obtain ⟨-, cur, hb, -⟩ := (h.ch i x c hx hc).1.row hn
   have := heap_lt hb
   omega
end
structure Fb (N : Nat) (w w' : World) : Prop where
 b : Below N w w'
 f : ∀ (k : Nat) (cc : Array Value), w.heap[k]? = some (.cells cc 53 (0, 0)) → w'.heap[k]? = some (.cells cc 53 (0, 0))
section
variable {w0 w w' : World} {N R mb : Nat} {ev vs : Value} {D : DataW Unit} {cs : List Sv} {s : Gs}
theorem Fb.of (h : Below w.heap.size w w') (hN : N ≤ w.heap.size) : Fb N w w' := ⟨h.mono hN, fun _ _ hk => heap_below hk h⟩
theorem Fb.trans (h : Fb N w0 w) (k : Fb N w w') : Fb N w0 w' := ⟨h.b.trans k.b, fun i cc hi => k.f i cc (h.f i cc hi)⟩
theorem Fb.size (h : Fb N w w') : w.heap.size ≤ w'.heap.size := h.b.size
theorem Fb.set {i k : Nat} {v : Value} {cc : Array Value} {t : TypeId} (h : Fb N w0 w) (hk : w.heap[k]? = some (.cells cc t (0, 0))) (ht : t ≠ 53) (hN : N ≤ k) : Fb N w0 (w.setCell ⟨k, i, none⟩ v) :=
 ⟨below_set h.b hN, fun j c2 hj => (Below.heap_setCell _ _ _ _ (by show j ≠ k; intro e; have := h.f j c2 hj; rw [e, hk] at this; cases this; exact ht rfl)).trans (h.f j c2 hj)⟩
theorem Fb.setR {i : Nat} {v : Value} (h : Fb N w0 w) (g : GR w N R mb ev vs D cs s) : Fb N w0 (w.setCell ⟨R, i, none⟩ v) := h.set g.hR (by decide) g.hN.1
theorem Fb.setS {i sg n c : Nat} {v : Value} (h : Fb N w0 w) (g : GR w N R mb ev (.slice (some ⟨sg, 0, none⟩) n c) D cs s) (hN : N ≤ sg) : Fb N w0 (w.setCell ⟨sg, i, none⟩ v) := by
 rcases g.st.2 with ⟨e, -⟩ | ⟨g', cap', cur, e, -, q3, -⟩
 ·cases e
 ·cases e
  exact h.set q3 (by decide) hN
theorem Fb.kb {C : Nat} {cc : Array Value} {t : TypeId} (h : Fb N w0 w) (k : KB C w w') (hC : N ≤ C) (hN : N ≤ w0.heap.size) (hk : w.heap[C]? = some (.cells cc t (0, 0))) (ht : t ≠ 53) : Fb N w0 w' := by
 refine ⟨⟨k.os.trans h.b.os, k.tape.trans h.b.tape, k.output.trans h.b.output, Nat.le_trans h.b.size k.size, fun j hj => (k.block j (by have := h.b.size; omega) (by omega)).trans (h.b.block j hj)⟩, fun j c2 hj => ?_⟩
 have h1 := h.f j c2 hj
 exact k.heap h1 (fun e => by rw [e, hk] at h1; cases h1; exact ht rfl)
theorem Fb.row {w1 : World} {v : Value} (h : Fb N w0 w) (g : GR w N R mb ev vs D cs s) (hg : w.grownBy w1 vs.ownBlock) (b : Below N w0 (w1.setCell ⟨R, 1, none⟩ v)) : Fb N w0 (w1.setCell ⟨R, 1, none⟩ v) := by
 refine ⟨b, fun j c2 hj => ?_⟩
 have h1 := h.f j c2 hj
 have h2 : w1.heap[j]? = some (.cells c2 53 (0, 0)) := (hg.block j (heap_lt h1) (fun e => by
  rcases g.st.2 with ⟨rfl, -⟩ | ⟨g', cap', cur, rfl, -, q3, -⟩
  ·cases e
  ·cases e; rw [q3] at h1; cases h1)).trans h1
 exact (Below.heap_setCell _ _ _ _ (by show j ≠ R; intro e; rw [e, g.hR] at h1; cases h1)).trans h2
end
def GoP (R2 : Option (List Int × Bool)) (N R : Nat) (ev : Value) (s : Gs) (w : World) (r : Ending) (w' : World) : Prop := ((R2 = none ∧ r = .returned (.bool false)) ∨ ∃ st pn, R2 = some (st, pn) ∧ r = .returned (.bool true) ∧ GW w' N R ev { s with st := st, pn := pn }) ∧ Fb N w w'
theorem GoP.no {R2 : Option (List Int × Bool)} {N R : Nat} {ev : Value} {s : Gs} {w w' : World} (h : R2 = none) (b : Fb N w w') : GoP R2 N R ev s w (.returned (.bool false)) w' := ⟨.inl ⟨h, rfl⟩, b⟩
theorem GoP.yes {R2 : Option (List Int × Bool)} {N R mb : Nat} {ev vs : Value} {D : DataW Unit} {cs : List Sv} {s : Gs} {w w' : World} {st : List Int} {pn : Bool} (h : R2 = some (st, pn)) (g : GR w' N R mb ev vs D cs { s with st := st, pn := pn }) (b : Fb N w w') : GoP R2 N R ev s w (.returned (.bool true)) w' := ⟨.inr ⟨st, pn, h, rfl, mb, vs, D, cs, g⟩, b⟩
set_option maxRecDepth 100000 in
set_option maxHeartbeats 12800000 in
theorem gor_any {w : World} {N R c : Nat} {oa : Option Addr} {l : List Ev} {s : Gs} (h : GW w N R (.slice oa l.length c) s) (hA : EsAt w oa l) {i : Nat} {e : Ev} (hi : l[i]? = some e) (hg : e.k ≠ 13 → 0 ≤ e.g) (hst : s.st.length ≤ 3000) (hNw : N ≤ w.heap.size) :
 Calls Tryz.prog 20 #[.pointer (some ⟨R, 0, none⟩), .int .i64 (i : Int)] w fun r w' => GoP (r2 s.st s.pn e) N R (.slice oa l.length c) s w r w' := by
 obtain ⟨mb, vs, D, cs, h⟩ := h
 have hil : i < l.length := (List.getElem?_eq_some_iff.1 hi).1
 obtain ⟨b1, o1, rfl, -⟩ := hA i e hi
 obtain ⟨p0, p1, p2, p3, p4, p5, p6, p7⟩ := hA.read hi
 have hiM : (i : Int) < (l.length : Int) := by omega
 clear hA hi
 generalize l.length = M at *
 obtain ⟨va, vc, rfl⟩ := own_sl h.st
 have H0 := hide h
 have H1 := hide (h.below (below_alloc w (.cells #[.int .i64 e.k, .int .i64 e.g, .int .i64 e.c, .int .i64 e.a, .int .i64 e.v, .int .i64 e.m, .bool e.s, .bool e.o] 35)))
 have E1 := hide (heap_new w (.cells #[.int .i64 e.k, .int .i64 e.g, .int .i64 e.c, .int .i64 e.a, .int .i64 e.v, .int .i64 e.m, .bool e.s, .bool e.o] 35))
 have B1 := hide (Fb.of (below_alloc w (.cells #[.int .i64 e.k, .int .i64 e.g, .int .i64 e.c, .int .i64 e.a, .int .i64 e.v, .int .i64 e.m, .bool e.s, .bool e.o] 35)) hNw)
 have hRw : R < w.heap.size := heap_lt h.hR
 have c0 : w.cell? ⟨R, 0, none⟩ = some (.slice (some ⟨b1, o1, none⟩) M c) := cell_of h.hR 0
 have RR : ∀ q, Hid (r2 s.st s.pn e = q) → Hid (r2 s.st s.pn e = q) := fun _ h => h
 clear RR
 obtain ⟨R2, hR2⟩ : ∃ R2, r2 s.st s.pn e = R2 := ⟨_, rfl⟩
 rw [hR2]
 unfold r2 at hR2
 clear h
 obtain ⟨E, hE⟩ : ∃ E, w.heap.size = E := ⟨_, rfl⟩
 go_enter Tryz.func20, Tryz.ntmps20
 go_upto_region 2 with fail
 rw [hE] at E1 hRw
 clear p0 p1 p2 p3 p4 p5 p6 p7 hE c0
 generalize w.alloc (.cells #[.int .i64 e.k, .int .i64 e.g, .int .i64 e.c, .int .i64 e.a, .int .i64 e.v, .int .i64 e.m, .bool e.s, .bool e.o] 35) = W1 at *
 have c0 : W1.cell? ⟨R, 0, none⟩ = some (.slice (some ⟨b1, o1, none⟩) M c) := cell_of H1.out.hR 0
 have c1 : W1.cell? ⟨R, 1, none⟩ = some (.slice va s.st.length vc) := cell_of H1.out.hR 1
 have c3 : W1.cell? ⟨R, 3, none⟩ = some (.bool s.pn) := cell_of H1.out.hR 3
 have v0 : W1.cell? ⟨E, 0, none⟩ = some (.int .i64 e.k) := cell_of E1.out 0
 have v1 : W1.cell? ⟨E, 1, none⟩ = some (.int .i64 e.g) := cell_of E1.out 1
 have v5 : W1.cell? ⟨E, 5, none⟩ = some (.int .i64 e.m) := cell_of E1.out 5
 cases hpn : s.pn
 case true =>
  rw [hpn] at hR2 c3
  rw [if_pos rfl] at hR2
  go_wp2_with fail
  go_ret
  exact GoP.no hR2.symm B1.out
 rw [hpn] at hR2 c3
 rw [if_neg (by simp)] at hR2
 by_cases h13 : e.k = 13
 ·rw [if_pos h13] at hR2
  have d13 : (e.k == 13) = true := by simp [h13]
  go_wp2_with fail
  go_ret
  have hse : ({ s with st := s.st, pn := false } : Gs) = s := by rw [← hpn]
  exact GoP.yes hR2.symm (by rw [hse]; exact H1.out) B1.out
 have d13 : (e.k == 13) = false := by simp [h13]
 have g0 := hg h13
 rw [if_neg h13] at hR2
 by_cases hge : (s.st.length : Int) ≤ e.g
 ·rw [if_pos hge] at hR2
  have dge : decide ((s.st.length : Int) ≤ e.g) = true := decide_eq_true hge
  clear hg
  generalize s.st.length = SL at *
  go_wp2_with fail
  go_quiet (fail)
  go_wp2_with fail
  go_ret
  exact GoP.no hR2.symm (B1.out.trans (Fb.of (bdrew _ _) (by have := B1.out.size; omega)))
 have dge : decide ((s.st.length : Int) ≤ e.g) = false := decide_eq_false hge
 rw [if_neg hge] at hR2
 obtain ⟨j, hj⟩ : ∃ j : Nat, e.g = (j : Int) := ⟨e.g.toNat, by omega⟩
 rw [hj] at v1 hR2 dge
 rw [Int.toNat_natCast] at hR2
 have hjl : j < s.st.length := by omega
 have hjl' : (j : Int) < (s.st.length : Int) := by omega
 obtain ⟨sg, rfl⟩ : ∃ sg, va = some ⟨sg, 0, none⟩ := by
  rcases H1.out.st.2 with ⟨e0, h0⟩ | ⟨g, cap, cur, e0, -⟩
  ·omega
  ·cases e0; exact ⟨g, rfl⟩
 obtain ⟨sc, sf, sN⟩ := own_st_cell H1.out.st j hjl
 have HL := hide hjl
 have MY := hide (fun q => mayDo_any (s.st.getD j 0) e.k (W1.drewN q))
 obtain ⟨my, hmy⟩ : ∃ my, may (s.st.getD j 0) e.k = my := ⟨_, rfl⟩
 rw [hmy] at hR2 MY
 obtain ⟨tv, htv⟩ : ∃ tv, s.st.getD j 0 = tv := ⟨_, rfl⟩
 rw [htv] at sc MY
 obtain ⟨SL, hSL⟩ : ∃ SL, s.st.length = SL := ⟨_, rfl⟩
 have HSL := hide hSL
 rw [hSL] at c1 dge hjl hjl' hR2 hst
 have dgeN : decide (SL ≤ j) = false := by simp; omega
 have HJ := hide hj
 have HTV := hide htv
 clear hmy htv hj hg hge g0 h13 hSL
 go_upto_region 6 with fail
 go_cut [41] (fun s41 wc => s41 = .bool (!my) ∧ ∃ q, wc = W1.drewN q)
 case first =>
  go_quiet ((go_at_call 44; exact Calls.quiet_of_same (MY.out _)))
  go_wp2_with fail
  go_meet
  case rel => exact ⟨rfl, _, rfl⟩
 case rest =>
 obtain ⟨rfl, q1, e1⟩ := hcut
 have K1 : Below W1.heap.size W1 wc := by rw [e1]; exact bdrew _ _
 have H2 := hide (H1.out.below K1)
 have E2 := hide (heap_below E1.out K1)
 have B2 := hide (B1.out.trans (Fb.of K1 (by have := B1.out.size; omega)))
 clear e1 K1 c0 c1 c3 v0 v1 v5 sc sf H1 E1 B1 MY
 rename World => W2
 have c1 : W2.cell? ⟨R, 1, none⟩ = some (.slice (some ⟨sg, 0, none⟩) SL vc) := by rw [← HSL.out]; exact cell_of H2.out.hR 1
 have c3 : W2.cell? ⟨R, 3, none⟩ = some (.bool false) := by rw [← hpn]; exact cell_of H2.out.hR 3
 have v0 : W2.cell? ⟨E, 0, none⟩ = some (.int .i64 e.k) := cell_of E2.out 0
 have v5 : W2.cell? ⟨E, 5, none⟩ = some (.int .i64 e.m) := cell_of E2.out 5
 have v1 : W2.cell? ⟨E, 1, none⟩ = some (.int .i64 (j : Int)) := by rw [← HJ.out]; exact cell_of E2.out 1
 obtain ⟨sc0, sf, -⟩ := own_st_cell H2.out.st j HL.out
 have sc : W2.cell? ⟨sg, j, none⟩ = some (.int .i64 tv) := by rw [← HTV.out]; exact sc0
 have SAME : Hid (∀ (u : World) (st : List Int) (vv : Value), GR u N R mb (.slice (some ⟨b1, o1, none⟩) M c) vv D cs { s with st := st } → GR u N R mb (.slice (some ⟨b1, o1, none⟩) M c) vv D cs { s with st := st, pn := false }) := fun u st vv h => by rw [← hpn]; exact h
 clear sc0
 cases my
 ·rw [if_pos rfl] at hR2
  go_wp2_with fail
  go_ret
  exact GoP.no hR2.symm B2.out
 rw [if_neg (by simp)] at hR2
 by_cases k1 : e.k = 1
 ·rw [if_pos k1] at hR2
  have d1 : (e.k == 1) = true := by simp [k1]
  clear k1
  by_cases hmm : e.m = (SL : Int)
  case neg =>
   rw [if_pos hmm] at hR2
   have dm : (e.m != (SL : Int)) = true := by simp [hmm]
   go_wp2_with fail
   go_quiet (fail)
   go_wp2_with fail
   go_ret
   exact GoP.no hR2.symm (B2.out.trans (Fb.of (bdrew _ _) (by have := B2.out.size; omega)))
  rw [if_neg (by simp [hmm])] at hR2
  have dm : (e.m != (SL : Int)) = false := by simp [hmm]
  clear hmm
  obtain ⟨i0, hi0, hz0, hz1, hz2⟩ := info_parts info_int
  have INF := hide (And.intro hi0 (And.intro hz0 (And.intro hz1 hz2)))
  clear hi0 hz0 hz1 hz2
  go_upto_region 10 with fail
  go_cut [53] (fun s53 wc => s53 = .bool false ∧ ∃ q, wc = W2.drewN q)
  case first =>
   go_quiet (fail)
   go_wp2_with fail
   go_meet
   case rel => exact ⟨rfl, _, rfl⟩
  case rest =>
  obtain ⟨rfl, q2, e2⟩ := hcut
  have K2 : Below W2.heap.size W2 wc := by rw [e2]; exact bdrew _ _
  have H3 := hide (H2.out.below K2)
  have B3 := hide (B2.out.trans (Fb.of K2 (by have := B2.out.size; omega)))
  clear e2 K2 c1 c3 v0 v5 v1 sc sf H2 E2 B2
  rename World => W3
  have c1 : W3.cell? ⟨R, 1, none⟩ = some (.slice (some ⟨sg, 0, none⟩) SL vc) := by rw [← HSL.out]; exact cell_of H3.out.hR 1
  have H4 := hide (H3.out.below (below_alloc W3 (.cells #[.int .i64 0] 3)))
  have B4 := hide (B3.out.trans (Fb.of (below_alloc W3 (.cells #[.int .i64 0] 3)) (by have := B3.out.size; omega)))
  have SRC := hide (cell_one_new W3 (.int .i64 0) 3)
  have OW : Hid ((W3.alloc (.cells #[.int .i64 0] 3)).ownsRow N 3 1 (.slice (some ⟨sg, 0, none⟩) SL vc) SL (ic s.st)) := by rw [← HSL.out]; exact H4.out.st
  go_wp2_with (at_builtin; refine wpList_append_own_at _ rfl _ _ 23 rfl N 3 i0 (.int .i64 0) 1 8 Tryz.underlying23 INF.out.1 INF.out.2.1 INF.out.2.2.1 INF.out.2.2.2 rfl (by decide) _ _ _ rfl OW.out ⟨W3.heap.size, 0, none⟩ 1 1 [.int .i64 0] rfl rfl ?c1 ?c2 ?c3 ?c4 ?c5 ?_)
  case c1 => exact SRC.out
  case c2 => exact ic_one [0]
  case c3 => unfold maxLen; omega
  case c4 => omega
  case c5 => have := B4.out.size; omega
  intro v' w4 ho hg4 _ hat
  have O4 : Hid (w4.ownsRow N 3 1 v' (s.st ++ [0]).length (ic (s.st ++ [0]))) := by
   show World.ownsRow _ _ _ _ _ _ _
   rw [ic_app, List.length_append, HSL.out]; exact ho
  obtain ⟨oa4, cc4, rfl⟩ := own_sl O4.out
  have H5 := hide (H4.out.row hg4 O4.out (hat.imp id (fun q => by rw [World.size_alloc]; exact q)))
  have B5 := hide (Fb.row B4.out H4.out (by rw [HSL.out]; exact hg4) (below_set (i := 1) (v := .slice oa4 (s.st ++ [0]).length cc4) (B4.out.b.grown hg4 (by have := B4.out.size; omega) (fun x hx => (OW.out.lt x hx).1)) H3.out.hN.1))
  have hR4 : w4.heap[R]? = _ := (hg4.block R (heap_lt H4.out.hR) (fun e => H4.out.noR.1 e.symm)).trans H4.out.hR
  have e1 : w4.cell? ⟨R, 1, none⟩ = some (.slice (some ⟨sg, 0, none⟩) s.st.length vc) := cell_of hR4 1
  have z1 := frozen_of hR4 1
  obtain ⟨LL, hLL⟩ : ∃ LL, (s.st ++ [0]).length = LL := ⟨_, rfl⟩
  rw [hLL] at H5 B5 ⊢
  clear ho hg4 hat hR4 hLL O4
  go_wp2_with fail
  go_ret
  exact GoP.yes hR2.symm (SAME.out _ _ _ H5.out) B5.out
 have d1 : (e.k == 1) = false := by simp [k1]
 rw [if_neg k1] at hR2
 by_cases k6 : e.k = 6
 ·rw [if_pos k6] at hR2
  have d6 : (e.k == 6) = true := by simp [k6]
  have H3 := hide ((H2.out.below (bdrew1 _)).set j 1)
  have B3 := hide (Fb.setS (i := j) (v := .int .i64 1) (B2.out.trans (Fb.of (bdrew1 W2) (by have := B2.out.size; omega))) (H2.out.below (bdrew1 _)) sN)
  have c1' : W2.drew.cell? ⟨R, 1, none⟩ = some (.slice (some ⟨sg, 0, none⟩) SL vc) := c1
  have v1' : W2.drew.cell? ⟨E, 1, none⟩ = some (.int .i64 (j : Int)) := v1
  have sc' : W2.drew.cell? ⟨sg, j, none⟩ = some (.int .i64 tv) := sc
  have sf' : W2.drew.frozen? ⟨sg, j, none⟩ = false := sf
  clear k6
  go_upto_region 14 with fail
  go_region
  all_goals
   go_wp2_with fail
   go_ret
   exact GoP.yes hR2.symm (SAME.out _ _ _ H3.out) B3.out
 have d6 : (e.k == 6) = false := by simp [k6]
 rw [if_neg k6] at hR2
 by_cases k7 : e.k = 7
 ·rw [if_pos k7] at hR2
  have d7 : (e.k == 7) = true := by simp [k7]
  have H3 := hide ((H2.out.below (bdrew1 _)).set j 0)
  have B3 := hide (Fb.setS (i := j) (v := .int .i64 0) (B2.out.trans (Fb.of (bdrew1 W2) (by have := B2.out.size; omega))) (H2.out.below (bdrew1 _)) sN)
  have c1' : W2.drew.cell? ⟨R, 1, none⟩ = some (.slice (some ⟨sg, 0, none⟩) SL vc) := c1
  have v1' : W2.drew.cell? ⟨E, 1, none⟩ = some (.int .i64 (j : Int)) := v1
  have sc' : W2.drew.cell? ⟨sg, j, none⟩ = some (.int .i64 tv) := sc
  have sf' : W2.drew.frozen? ⟨sg, j, none⟩ = false := sf
  clear k7
  go_upto_region 16 with fail
  go_region
  all_goals
   go_wp2_with fail
   go_ret
   exact GoP.yes hR2.symm (SAME.out _ _ _ H3.out) B3.out
 have d7 : (e.k == 7) = false := by simp [k7]
 rw [if_neg k7] at hR2
 by_cases k11 : e.k = 11
 ·rw [if_pos k11] at hR2
  have d11 : (e.k == 11) = true := by simp [k11]
  have H3 := hide ((H2.out.below (bdrew1 _)).set j 2)
  have B3 := hide (Fb.setS (i := j) (v := .int .i64 2) (B2.out.trans (Fb.of (bdrew1 W2) (by have := B2.out.size; omega))) (H2.out.below (bdrew1 _)) sN)
  have c1' : W2.drew.cell? ⟨R, 1, none⟩ = some (.slice (some ⟨sg, 0, none⟩) SL vc) := c1
  have v1' : W2.drew.cell? ⟨E, 1, none⟩ = some (.int .i64 (j : Int)) := v1
  have sc' : W2.drew.cell? ⟨sg, j, none⟩ = some (.int .i64 tv) := sc
  have sf' : W2.drew.frozen? ⟨sg, j, none⟩ = false := sf
  clear k11
  go_upto_region 18 with fail
  go_region
  all_goals
   go_wp2_with fail
   go_ret
   exact GoP.yes hR2.symm (SAME.out _ _ _ H3.out) B3.out
 have d11 : (e.k == 11) = false := by simp [k11]
 rw [if_neg k11] at hR2
 by_cases k12 : e.k = 12
 ·rw [if_pos k12] at hR2
  have d12 : (e.k == 12) = true := by simp [k12]
  have z3 := frozen_of H2.out.hR 3
  have H3 := hide (H2.out.setR ((KB.refl R W2).setCell 3 (.bool true)) (s' := { s with pn := true }) (Ba.heap_setCell_same H2.out.hR _) rfl rfl rfl)
  have B3 := hide (Fb.setR (i := 3) (v := .bool true) B2.out H2.out)
  clear k12
  go_wp2_with fail
  go_ret
  exact GoP.yes hR2.symm H3.out B3.out
 have d12 : (e.k == 12) = false := by simp [k12]
 rw [if_neg k12] at hR2
 go_wp2_with fail
 go_ret
 exact GoP.yes hR2.symm (SAME.out _ _ _ H2.out) B2.out
end Gu
end Go.Proofs.YtkkgbeaaekmhfaaGreat
