import Derived.Test.YtblfimobiibmjaaGreatZjAh1
namespace Go.Proofs.YtblfimobiibmjaaGreat
namespace Gu
open En
def there (p : List Ev) : Nat := 1 + p.countP (fun x => decide (x.k = 1))
def exitF (g : Int) (p : List Ev) : Bool := p.any fun x => decide (x.g = g) && decide (x.k = 11)
def wstep (g : Int) (b : Bool) (x : Ev) : Bool := if x.g ≠ g then b else if x.k = 6 then true else if x.k = 7 then false else b
def waitsF (g : Int) (p : List Ev) : Bool := p.foldl (wstep g) false
def panF (p : List Ev) : Bool := p.any fun x => decide (x.k = 12)
def crew (p : List Ev) (e : Ev) : Bool :=
 !panF p && (decide (e.k = 13) || (decide (e.g < there p) && !exitF e.g p && (decide (e.k = 12) || waitsF e.g p == decide (e.k = 7)) && (decide (e.k ≠ 1) || decide (e.m = there p))))
theorem there_app (p : List Ev) (e : Ev) : there (p ++ [e]) = there p + if e.k = 1 then 1 else 0 := by
 simp only [there, List.countP_append, List.countP_cons, List.countP_nil, decide_eq_true_eq]; omega
theorem exit_app (g : Int) (p : List Ev) (e : Ev) : exitF g (p ++ [e]) = (exitF g p || (decide (e.g = g) && decide (e.k = 11))) := by
 simp [exitF]
theorem waits_app (g : Int) (p : List Ev) (e : Ev) : waitsF g (p ++ [e]) = wstep g (waitsF g p) e := by
 simp [waitsF]
theorem pan_app (p : List Ev) (e : Ev) : panF (p ++ [e]) = (panF p || decide (e.k = 12)) := by simp [panF]
def may (t k : Int) : Bool := if k = 7 then decide (t = 1) else if k = 12 then decide (t ≠ 2) else decide (t = 0)
def r2 (st : List Int) (pn : Bool) (e : Ev) : Option (List Int × Bool) :=
 if pn then none
 else if e.k = 13 then some (st, pn)
 else if (st.length : Int) ≤ e.g then none
 else if may (st.getD e.g.toNat 0) e.k = false then none
 else if e.k = 1 then if e.m ≠ st.length then none else some (st ++ [0], pn)
 else if e.k = 6 then some (st.set e.g.toNat 1, pn)
 else if e.k = 7 then some (st.set e.g.toNat 0, pn)
 else if e.k = 11 then some (st.set e.g.toNat 2, pn)
 else if e.k = 12 then some (st, true)
 else some (st, pn)
def is (g : Int) (p : List Ev) : Int := if exitF g p then 2 else if waitsF g p then 1 else 0
structure IC (p : List Ev) (st : List Int) (pn : Bool) : Prop where
 len : st.length = there p
 at_ : ∀ g : Nat, g < st.length → st.getD g 0 = is g p
 few : ∀ g : Nat, st.length ≤ g → exitF g p = false ∧ waitsF g p = false
 pn : pn = panF p
theorem IC.nil : IC [] [0] false := ⟨rfl, fun g h => by
 have : g = 0 := by simp at h; exact h
 subst this; rfl, fun _ _ => ⟨rfl, rfl⟩, rfl⟩
theorem is_app_other {g : Int} {p : List Ev} {e : Ev} (h : e.g ≠ g) : is g (p ++ [e]) = is g p := by
 simp [is, exit_app, waits_app, wstep, h]
theorem ew_app_other {g : Int} {p : List Ev} {e : Ev} (h : e.g ≠ g) : exitF g (p ++ [e]) = exitF g p ∧ waitsF g (p ++ [e]) = waitsF g p := by
 simp [exit_app, waits_app, wstep, h]
theorem may_is (g : Int) (p : List Ev) (k : Int) : may (is g p) k = (!exitF g p && (decide (k = 12) || waitsF g p == decide (k = 7))) := by
 unfold may is
 by_cases h7 : k = 7
 ·subst h7; cases exitF g p <;> cases waitsF g p <;> simp
 ·by_cases h12 : k = 12
  ·subst h12; cases exitF g p <;> cases waitsF g p <;> simp
  ·cases exitF g p <;> cases waitsF g p <;> simp [h7, h12]
theorem r2_some {p : List Ev} {st : List Int} {pn : Bool} (I : IC p st pn) (e : Ev) (hg : e.k ≠ 13 → 0 ≤ e.g) : (r2 st pn e).isSome = crew p e := by
 unfold r2 crew
 rw [← I.pn]
 cases pn
 case true => simp
 case false =>
 by_cases h13 : e.k = 13
 ·simp [h13]
 ·have g0 := hg h13
  by_cases hl : (st.length : Int) ≤ e.g
  ·have : ¬ (e.g < there p) := by rw [← I.len]; omega
   simp [h13, hl, this]
  ·have hlt : e.g < there p := by rw [← I.len]; omega
   have hn : e.g.toNat < st.length := by omega
   have hat := I.at_ _ hn
   have ge : ((e.g.toNat : Nat) : Int) = e.g := by omega
   rw [ge] at hat
   rw [hat, may_is]
   cases hm : (!exitF e.g p && (decide (e.k = 12) || waitsF e.g p == decide (e.k = 7)))
   ·simp only [Bool.and_assoc] at hm ⊢
    simp [h13, hl, hlt]
    revert hm
    cases exitF e.g p <;> simp
    intro a b
    simp [a, b]
   ·have hx : exitF e.g p = false := by revert hm; cases exitF e.g p <;> simp
    have hw : (decide (e.k = 12) || waitsF e.g p == decide (e.k = 7)) = true := by revert hm; rw [hx]; simp
    rw [if_neg (by simp), if_neg h13, if_neg hl, if_neg (by simp)]
    have R : (!false && (decide (e.k = 13) || (decide (e.g < there p) && !exitF e.g p && (decide (e.k = 12) || waitsF e.g p == decide (e.k = 7)) && (decide (e.k ≠ 1) || decide (e.m = there p))))) = (decide (e.k ≠ 1) || decide (e.m = there p)) := by
     rw [hx, hw, decide_eq_true hlt, decide_eq_false h13]; simp
    rw [R, ← I.len]
    by_cases h1 : e.k = 1
    ·rw [if_pos h1]
     by_cases hm' : e.m = st.length <;> simp [h1, hm']
    ·rw [if_neg h1]
     have : (decide (e.k ≠ 1) || decide (e.m = (st.length : Int))) = true := by simp [h1]
     rw [this]
     repeat' split
     all_goals rfl
theorem IC.same {p : List Ev} {st : List Int} {pn : Bool} (I : IC p st pn) (e : Ev) (h : e.k ≠ 1) (h6 : e.k ≠ 6) (h7 : e.k ≠ 7) (h11 : e.k ≠ 11) : IC (p ++ [e]) st (pn || decide (e.k = 12)) := by
 have hi : ∀ g, exitF g (p ++ [e]) = exitF g p ∧ waitsF g (p ++ [e]) = waitsF g p := fun g => by
  simp [exit_app, waits_app, wstep, h6, h7, h11]
 refine ⟨?_, fun g hg => ?_, fun g hg => ?_, ?_⟩
 ·rw [there_app, I.len]; simp [h]
 ·rw [I.at_ g hg]; simp [is, hi]
 ·rw [(hi g).1, (hi g).2]; exact I.few g hg
 ·rw [pan_app, I.pn]
theorem IC.set {p : List Ev} {st : List Int} {pn : Bool} (I : IC p st pn) (e : Ev) (h0 : 0 ≤ e.g) (hl : e.g < st.length) (h1 : e.k ≠ 1) (h12 : e.k ≠ 12) (x : Int) (hx : is e.g (p ++ [e]) = x) : IC (p ++ [e]) (st.set e.g.toNat x) pn := by
 refine ⟨?_, fun g hg => ?_, fun g hg => ?_, ?_⟩
 ·rw [List.length_set, there_app, I.len]; simp [h1]
 ·rw [List.length_set] at hg
  by_cases hge : e.g.toNat = g
  ·subst hge
   have ge : ((e.g.toNat : Nat) : Int) = e.g := by omega
   rw [ge, hx]
   simp [List.getD_eq_getElem?_getD, hg]
  ·have ne : e.g ≠ (g : Int) := by omega
   rw [is_app_other ne, ← I.at_ g hg]
   simp [List.getD_eq_getElem?_getD, List.getElem?_set_ne hge]
 ·rw [List.length_set] at hg
  have ne : e.g ≠ (g : Int) := by omega
  rw [(ew_app_other ne).1, (ew_app_other ne).2]
  exact I.few g hg
 ·rw [pan_app, I.pn]; simp [h12]
theorem r2_keeps {p : List Ev} {st : List Int} {pn : Bool} (I : IC p st pn) (e : Ev) (hg : e.k ≠ 13 → 0 ≤ e.g) {st' : List Int} {pn' : Bool} (h : r2 st pn e = some (st', pn')) : IC (p ++ [e]) st' pn' := by
 unfold r2 at h
 cases pn
 case true => simp at h
 case false =>
 by_cases h13 : e.k = 13
 ·simp [h13] at h
  obtain ⟨rfl, rfl⟩ := h
  have := I.same e (by omega) (by omega) (by omega) (by omega)
  simpa [h13] using this
 ·have g0 := hg h13
  by_cases hl : (st.length : Int) ≤ e.g
  ·simp [h13, hl] at h
  have hn : e.g.toNat < st.length := by omega
  have hat := I.at_ _ hn
  have ge : ((e.g.toNat : Nat) : Int) = e.g := by omega
  rw [ge] at hat
  rw [hat] at h
  have hl' : e.g < st.length := by omega
  by_cases hm : may (is e.g p) e.k = false
  ·simp [h13, hl, hm] at h
  rw [if_neg (by simp), if_neg h13, if_neg hl, if_neg hm] at h
  have hm' : may (is e.g p) e.k = true := by simpa using hm
  rw [may_is] at hm'
  have hx : exitF e.g p = false := by revert hm'; cases exitF e.g p <;> simp
  by_cases h1 : e.k = 1
  ·rw [if_pos h1] at h
   by_cases hmm : e.m = st.length
   ·simp [hmm] at h
    obtain ⟨rfl, rfl⟩ := h
    have hi : ∀ g, exitF g (p ++ [e]) = exitF g p ∧ waitsF g (p ++ [e]) = waitsF g p := fun g => by
     simp [exit_app, waits_app, wstep, h1]
    refine ⟨?_, fun g hg => ?_, fun g hg => ?_, ?_⟩
    ·rw [there_app, List.length_append, I.len]; simp [h1]
    ·simp only [is, hi]
     by_cases hlt : g < st.length
     ·have := I.at_ g hlt
      simp only [is] at this
      rw [← this]
      simp [List.getD_eq_getElem?_getD, List.getElem?_append_left hlt]
     ·have he : g = st.length := by simp at hg; omega
      have := I.few g (by omega)
      rw [this.1, this.2]
      subst he
      simp [List.getD_eq_getElem?_getD]
    ·rw [(hi g).1, (hi g).2]
     exact I.few g (by simp at hg; omega)
    ·rw [pan_app, ← I.pn]; simp [h1]
   ·simp [hmm] at h
  rw [if_neg h1] at h
  by_cases h6 : e.k = 6
  ·rw [if_pos h6] at h
   obtain ⟨rfl, rfl⟩ := by simpa using h
   exact I.set e g0 hl' h1 (by omega) 1 (by simp [is, exit_app, waits_app, wstep, h6, hx])
  rw [if_neg h6] at h
  by_cases h7 : e.k = 7
  ·rw [if_pos h7] at h
   obtain ⟨rfl, rfl⟩ := by simpa using h
   exact I.set e g0 hl' h1 (by omega) 0 (by simp [is, exit_app, waits_app, wstep, h7, hx])
  rw [if_neg h7] at h
  by_cases h11 : e.k = 11
  ·rw [if_pos h11] at h
   obtain ⟨rfl, rfl⟩ := by simpa using h
   exact I.set e g0 hl' h1 (by omega) 2 (by simp [is, exit_app, h11])
  rw [if_neg h11] at h
  have S := I.same e h1 h6 h7 h11
  by_cases h12 : e.k = 12
  ·rw [if_pos h12] at h
   obtain ⟨rfl, rfl⟩ := by simpa using h
   simpa [h12] using S
  ·rw [if_neg h12] at h
   obtain ⟨rfl, rfl⟩ := by simpa using h
   simpa [h12] using S
def serves (e : Ev) : Bool := (decide (e.k = 3) || decide (e.k = 4)) && decide (0 ≤ e.m)
def servF (s e : Ev) : Bool := decide (e.k = 7) && decide (e.g = s.m) && decide (e.m = s.g) && decide (e.c = s.c) && (e.s != s.s) && e.o && (!s.s || decide (e.v = s.v))
def back (e : Ev) : List Ev → Bool
 | [] => false
 | x :: r => if x.k = 5 then decide (x.g = e.m) && decide (x.c = e.c) else if x.k ≠ 7 then false else if (r.head?.any serves) then false else back e r
def wakeF (r : List Ev) (e : Ev) : Bool := if e.k ≠ 7 then true else if e.o || e.s then false else back e r
def served (r : List Ev) (e : Ev) : Bool := match r with
 | [] => wakeF [] e
 | s :: r' => if serves s then servF s e else wakeF (s :: r') e
def owed (x : Ev) : Bool := (decide (x.k = 3) || decide (x.k = 4)) && decide (x.m ≠ -1)
def servP (s e : Ev) : Bool :=
 if e.k ≠ 7 ∨ e.g ≠ s.m ∨ e.m ≠ s.g ∨ e.c ≠ s.c ∨ e.o = false then false
 else if s.k = 4 then e.s else !e.s && decide (e.v = s.v)
def closeP (la e : Ev) : Bool := decide (la.k = 5) && decide (e.m = la.g) && decide (e.c = la.c) && !e.s && !e.o
def r4 (la e : Ev) : Option Ev :=
 if owed la then if servP la e then some e else none
 else if e.k ≠ 7 then some e
 else if closeP la e then some la else none
structure Fit (e : Ev) : Prop where
 g : e.k ≠ 13 → 0 ≤ e.g
 c : e.k = 2 ∨ e.k = 3 ∨ e.k = 4 ∨ e.k = 5 → 0 ≤ e.c
 m : -1 ≤ e.m
 s3 : e.k = 3 → e.s = true
 s4 : e.k = 4 → e.s = false
 v : e.k = 2 → 0 ≤ e.v
def ev0 : Ev := ⟨0, 0, 0, 0, 0, 0, false, false⟩
structure IS (r : List Ev) (la : Ev) : Prop where
 ow : owed la = r.head?.any serves
 eq : owed la = true → r.head? = some la
 fit : Fit la
 bk : owed la = false → ∀ e : Ev, back e r = (decide (la.k = 5) && decide (la.g = e.m) && decide (la.c = e.c))
theorem Fit.zero : Fit ev0 := ⟨fun _ => by decide, fun _ => by decide, by decide, fun h => by revert h; decide, fun h => by revert h; decide, fun h => by revert h; decide⟩
theorem IS.nil : IS [] ev0 := ⟨rfl, fun h => absurd h (by decide), Fit.zero, fun _ e => by simp [back, ev0]⟩
theorem owed_serves {e : Ev} (f : Fit e) : owed e = serves e := by
 have := f.m
 unfold owed serves
 by_cases h : e.m = -1
 ·simp [h]
 ·have : 0 ≤ e.m := by omega
  simp [h, this]
theorem serv_eq {s e : Ev} (f : Fit s) (h : serves s = true) : servP s e = servF s e := by
 have hk : s.k = 3 ∨ s.k = 4 := by
  unfold serves at h
  simp at h
  exact h.1
 unfold servP servF
 by_cases a1 : e.k = 7 <;> by_cases a2 : e.g = s.m <;> by_cases a3 : e.m = s.g <;> by_cases a4 : e.c = s.c <;> simp [a1, a2, a3, a4]
 rcases hk with hk | hk
 ·rw [f.s3 hk]
  cases e.o <;> cases e.s <;> simp [hk]
 ·rw [f.s4 hk]
  cases e.o <;> cases e.s <;> simp [hk]
theorem r4_some {r : List Ev} {la : Ev} (I : IS r la) (e : Ev) : (r4 la e).isSome = served r e := by
 unfold r4
 cases ho : owed la
 ·have hh := I.ow
  rw [ho] at hh
  have hw : served r e = wakeF r e := by
   cases r with
   | nil => rfl
   | cons s r' =>
     have hs : serves s = false := by simpa using hh.symm
     simp [served, hs]
  rw [hw, if_neg (by simp)]
  unfold wakeF
  by_cases h7 : e.k = 7
  ·have n7 : ¬ (e.k ≠ 7) := fun q => q h7
   rw [if_neg n7, if_neg n7, I.bk ho e]
   unfold closeP
   rw [show decide (e.m = la.g) = decide (la.g = e.m) from decide_eq_decide.2 eq_comm, show decide (e.c = la.c) = decide (la.c = e.c) from decide_eq_decide.2 eq_comm]
   cases e.o <;> cases e.s <;> cases decide (la.k = 5) <;> cases decide (la.g = e.m) <;> cases decide (la.c = e.c) <;> rfl
  ·rw [if_pos h7, if_pos h7]; rfl
 ·have hr := I.eq ho
  have hs : serves la = true := by rw [← owed_serves I.fit]; exact ho
  cases r with
  | nil => simp at hr
  | cons s r' =>
    simp only [List.head?_cons, Option.some.injEq] at hr
    subst hr
    rw [if_pos rfl]
    simp only [served, hs, if_true]
    rw [serv_eq I.fit hs]
    cases servF s e <;> rfl
theorem r4_keeps {r : List Ev} {la : Ev} (I : IS r la) (e : Ev) (f : Fit e) {la' : Ev} (h : r4 la e = some la') : IS (e :: r) la' := by
 unfold r4 at h
 cases ho : owed la
 ·rw [ho, if_neg (by simp)] at h
  by_cases h7 : e.k = 7
  ·rw [if_neg (by simp [h7])] at h
   by_cases hc : closeP la e = true
   ·rw [if_pos hc] at h
    cases h
    have hk : la.k = 5 := by revert hc; unfold closeP; simp; intro a; simp [a]
    have hn : serves e = false := by simp [serves, h7]
    refine ⟨?_, ?_, I.fit, fun _ x => ?_⟩
    ·rw [ho]; simp [hn]
    ·rw [ho]; intro q; cases q
    ·have hh := I.ow
     rw [ho] at hh
     rw [← I.bk ho x]
     simp [back, h7, ← hh]
   ·rw [if_neg hc] at h; cases h
  ·rw [if_pos h7] at h
   cases h
   refine ⟨?_, fun _ => rfl, f, fun _ x => ?_⟩
   ·rw [owed_serves f]; simp
   ·by_cases h5 : e.k = 5
    ·simp [back, h5]
    ·simp [back, h5, h7]
 ·rw [ho, if_pos rfl] at h
  by_cases hv : servP la e = true
  ·rw [if_pos hv] at h
   cases h
   have h7 : e.k = 7 := by
    apply Classical.byContradiction
    intro q
    simp [servP, q] at hv
   refine ⟨?_, fun _ => rfl, f, fun _ x => ?_⟩
   ·rw [owed_serves f]; simp
   ·have hr := I.ow
    rw [ho] at hr
    simp [back, h7, ← hr]
  ·rw [if_neg hv] at h; cases h
def made (p : List Ev) (e : Ev) : Bool := if e.k = 2 then decide (e.c = p.countP fun x => decide (x.k = 2)) else decide (e.c < p.countP fun x => decide (x.k = 2))
structure In where
 size : Int
 L : List Int
 closed : Bool
 right : Bool
def in0 : In := ⟨0, [], false, true⟩
def moves (e : Ev) : Bool := decide (e.k = 3) || (decide (e.k = 4) && e.o)
def put (L : List Int) (e : Ev) (nx : Option Ev) : List Int :=
 if e.k = 3 then L ++ [e.v] else if 0 ≤ e.m then match nx with
  | some x => L ++ [x.v]
  | none => L
 else L
def mov (s : In) (e : Ev) (nx : Option Ev) : In :=
 if e.k = 4 ∨ 0 ≤ e.m then match put s.L e nx with
  | v :: r => ⟨s.size, r, s.closed, decide (v = e.v) && decide ((r.length : Int) ≤ s.size)⟩
  | [] => ⟨s.size, [], s.closed, (decide (0 ≤ e.m) && nx.isNone) && decide (0 ≤ s.size)⟩
 else ⟨s.size, put s.L e nx, s.closed, decide (((put s.L e nx).length : Int) ≤ s.size)⟩
def ins (s : In) (c : Int) (e : Ev) (nx : Option Ev) : In :=
 if e.c ≠ c then s
 else if moves e then mov s e nx
 else ⟨if e.k = 2 then e.v else s.size, s.L, if e.k = 5 then true else s.closed, s.right⟩
def ordered (s : In) (e : Ev) (nx : Option Ev) : Bool := if moves e then (mov s e nx).right else true
def closedF (s : In) (e : Ev) : Bool :=
 if e.k < 3 ∨ 5 < e.k then true
 else if e.k = 4 ∧ e.o = false then s.closed && s.L.isEmpty
 else if e.k = 4 ∧ e.m < 0 then true
 else !s.closed
structure Chn where
 cap : Int
 vs : List Int
 cl : Bool
def chz : Chn := ⟨0, [], false⟩
def r3 (ch : List Chn) (e : Ev) : Option (List Chn) :=
 if e.k = 2 then if e.c ≠ ch.length then none else some (ch ++ [⟨e.v, [], false⟩])
 else if e.c < ch.length then some ch else none
def putP (c : Chn) (e : Ev) (nx : Option Ev) : List Int :=
 if e.k = 3 then c.vs ++ [e.v] else if e.m ≠ -1 then match nx with
  | some x => c.vs ++ [x.v]
  | none => c.vs
 else c.vs
def r5c (c : Chn) (e : Ev) (nx : Option Ev) : Option Chn :=
 if e.k = 4 ∨ e.m ≠ -1 then match putP c e nx with
  | [] => if e.m ≠ -1 then some c else none
  | v :: r => if v ≠ e.v then none else if (r.length : Int) ≤ c.cap then some ⟨c.cap, r, c.cl⟩ else none
 else if ((putP c e nx).length : Int) ≤ c.cap then some ⟨c.cap, putP c e nx, c.cl⟩ else none
def r5 (ch : List Chn) (e : Ev) (nx : Option Ev) : Option (List Chn) :=
 if moves e then (r5c (ch.getD e.c.toNat chz) e nx).map fun c => ch.set e.c.toNat c else some ch
def r6 (ch : List Chn) (e : Ev) : Option (List Chn) :=
 let c := ch.getD e.c.toNat chz
 if e.k = 5 then if c.cl then none else some (ch.set e.c.toNat ⟨c.cap, c.vs, true⟩)
 else if e.k = 3 then if c.cl then none else some ch
 else if e.k = 4 then
  if e.o = false then if c.cl && c.vs.isEmpty then some ch else none
  else if e.m = -1 ∨ c.cl = false then some ch else none
 else some ch
def chOf (s : In) : Chn := ⟨s.size, s.L, s.closed⟩
theorem put_eq {e : Ev} (f : Fit e) (s : In) (nx : Option Ev) : putP (chOf s) e nx = put s.L e nx := by
 unfold putP put chOf
 have := f.m
 by_cases h : e.m = -1
 ·simp [h]
 ·have h' : 0 ≤ e.m := by omega
  simp [h, h']
theorem mov_size (s : In) (e : Ev) (nx : Option Ev) : (mov s e nx).size = s.size := by
 unfold mov; repeat' split
 all_goals rfl
theorem mov_closed (s : In) (e : Ev) (nx : Option Ev) : (mov s e nx).closed = s.closed := by
 unfold mov; repeat' split
 all_goals rfl
theorem r5c_is {e : Ev} (f : Fit e) {s : In} (h0 : 0 ≤ s.size) (nx : Option Ev) :
 r5c (chOf s) e nx = if (mov s e nx).right then some (chOf (mov s e nx)) else none := by
 unfold r5c mov
 rw [put_eq f]
 have fm := f.m
 have e1 : (e.k = 4 ∨ e.m ≠ -1) ↔ (e.k = 4 ∨ 0 ≤ e.m) := by
  constructor
  ·rintro (h | h)
   ·exact .inl h
   ·exact .inr (by omega)
  ·rintro (h | h)
   ·exact .inl h
   ·exact .inr (by omega)
 by_cases h : e.k = 4 ∨ 0 ≤ e.m
 ·rw [if_pos (e1.2 h), if_pos h]
  cases hp : put s.L e nx with
  | nil =>
    have hL : s.L = [] ∧ (0 ≤ e.m → nx.isNone = true) := by
     unfold put at hp
     by_cases h3 : e.k = 3
     ·simp [h3] at hp
     ·simp only [h3, if_false] at hp
      by_cases hmm : 0 ≤ e.m
      ·rw [if_pos hmm] at hp
       cases nx with
       | none => exact ⟨hp, fun _ => rfl⟩
       | some x => simp at hp
      ·rw [if_neg hmm] at hp
       exact ⟨hp, fun q => absurd q hmm⟩
    by_cases hmm : 0 ≤ e.m
    ·have : e.m ≠ -1 := by omega
     simp [this, hmm, hL.2 hmm, h0, chOf, hL.1]
    ·have : e.m = -1 := by omega
     simp [this]
  | cons v r =>
    by_cases hv : v = e.v
    ·by_cases hr : (r.length : Int) ≤ s.size
     ·simp [hv, hr, chOf]
     ·simp [hv, hr, chOf]
    ·simp [hv]
 ·rw [if_neg (fun q => h (e1.1 q)), if_neg h]
  by_cases hr : ((put s.L e nx).length : Int) ≤ s.size
  ·simp [hr, chOf]
  ·simp [hr, chOf]
structure IM (p : List Ev) (K : Int → In) (ch : List Chn) : Prop where
 len : ch.length = p.countP fun x => decide (x.k = 2)
 at_ : ∀ c : Nat, c < ch.length → ch.getD c chz = chOf (K c) ∧ 0 ≤ (K c).size
 few : ∀ c : Nat, ch.length ≤ c → K c = in0
theorem IM.nil : IM [] (fun _ => in0) [] := ⟨rfl, fun _ h => by simp at h, fun _ _ => rfl⟩
theorem r3_some {p : List Ev} {K : Int → In} {ch : List Chn} (I : IM p K ch) (e : Ev) : (r3 ch e).isSome = made p e := by
 unfold r3 made
 rw [← I.len]
 by_cases h : e.k = 2
 ·by_cases hc : e.c = ch.length <;> simp [h, hc]
 ·by_cases hc : e.c < ch.length <;> simp [h, hc]
theorem IM.set {p : List Ev} {K : Int → In} {ch : List Chn} (I : IM p K ch) (e : Ev) (nx : Option Ev) (h2 : e.k ≠ 2) (h0 : 0 ≤ e.c) (hl : e.c < ch.length)
 (x : Chn) (hx : x = chOf (ins (K e.c) e.c e nx)) : IM (p ++ [e]) (fun c => ins (K c) c e nx) (ch.set e.c.toNat x) := by
 have ce : ((e.c.toNat : Nat) : Int) = e.c := by omega
 refine ⟨?_, fun c hc => ?_, fun c hc => ?_⟩
 ·rw [List.length_set, I.len]; simp [List.countP_append, h2]
 ·rw [List.length_set] at hc
  by_cases he : e.c.toNat = c
  ·subst he
   rw [ce]
   refine ⟨?_, ?_⟩
   ·rw [hx]; simp [List.getD_eq_getElem?_getD, hc]
   ·have := (I.at_ _ hc).2
    rw [ce] at this
    unfold ins
    rw [if_neg (by simp)]
    split
    ·rw [mov_size]; exact this
    ·simpa [h2] using this
  ·have ne : e.c ≠ (c : Int) := by omega
   have := I.at_ c hc
   simp only [ins, ne, ne_eq, not_false_eq_true, if_true]
   refine ⟨?_, this.2⟩
   rw [← this.1]
   simp [List.getD_eq_getElem?_getD, List.getElem?_set_ne he]
 ·rw [List.length_set] at hc
  have ne : e.c ≠ (c : Int) := by omega
  simp only [ins, ne, ne_eq, not_false_eq_true, if_true]
  exact I.few c hc
theorem IM.rest {p : List Ev} {K : Int → In} {ch : List Chn} (I : IM p K ch) (e : Ev) (nx : Option Ev) (h2 : e.k ≠ 2) (h5 : e.k ≠ 5) (hm : moves e = false) : IM (p ++ [e]) (fun c => ins (K c) c e nx) ch := by
 have hi : ∀ c, ins (K c) c e nx = K c := fun c => by
  unfold ins
  split
  ·rfl
  ·rw [hm]; rfl
 simp only [hi]
 refine ⟨?_, I.at_, I.few⟩
 rw [I.len]; simp [List.countP_append, h2]
theorem IM.make {p : List Ev} {K : Int → In} {ch : List Chn} (I : IM p K ch) (e : Ev) (nx : Option Ev) (h2 : e.k = 2) (hc : e.c = ch.length) (hv : 0 ≤ e.v) : IM (p ++ [e]) (fun c => ins (K c) c e nx) (ch ++ [⟨e.v, [], false⟩]) := by
 have hm : moves e = false := by simp [moves, h2]
 refine ⟨?_, fun c hl => ?_, fun c hl => ?_⟩
 ·rw [List.length_append, I.len]; simp [List.countP_append, h2]
 ·by_cases he : c = ch.length
  ·subst he
   have := I.few ch.length (Nat.le_refl _)
   unfold ins
   rw [if_neg (by simp [hc]), hm, this]
   simp [List.getD_eq_getElem?_getD, chOf, in0, h2, hv]
  ·have hlt : c < ch.length := by simp at hl; omega
   have ne : e.c ≠ (c : Int) := by omega
   have := I.at_ c hlt
   simp only [ins, ne, ne_eq, not_false_eq_true, if_true]
   refine ⟨?_, this.2⟩
   rw [← this.1]
   simp [List.getD_eq_getElem?_getD, List.getElem?_append_left hlt]
 ·have ne : e.c ≠ (c : Int) := by simp at hl; omega
  simp only [ins, ne, ne_eq, not_false_eq_true, if_true]
  exact I.few c (by simp at hl; omega)
theorem moves_k {e : Ev} (h : moves e = true) : e.k = 3 ∨ (e.k = 4 ∧ e.o = true) := by
 unfold moves at h; simpa using h
theorem chans {p : List Ev} {K : Int → In} {ch : List Chn} (I : IM p K ch) (e : Ev) (f : Fit e) (nx : Option Ev) {ch3 : List Chn} (h3 : r3 ch e = some ch3) :
 (r5 ch3 e nx).isSome = ordered (K e.c) e nx ∧ ∀ ch5, r5 ch3 e nx = some ch5 → (r6 ch5 e).isSome = closedF (K e.c) e ∧ ∀ ch6, r6 ch5 e = some ch6 → IM (p ++ [e]) (fun c => ins (K c) c e nx) ch6 := by
 unfold r3 at h3
 by_cases h2 : e.k = 2
 ·rw [if_pos h2] at h3
  by_cases hc : e.c = ch.length
  ·rw [if_neg (by simp [hc])] at h3
   cases h3
   have hm : moves e = false := by simp [moves, h2]
   refine ⟨by simp [r5, ordered, hm], fun ch5 h5 => ?_⟩
   simp only [r5, hm] at h5
   cases h5
   refine ⟨by simp [r6, closedF, h2], fun ch6 h6 => ?_⟩
   simp [r6, h2] at h6
   subst h6
   exact I.make e nx h2 hc (f.v h2)
  ·rw [if_pos (by simpa using hc)] at h3; cases h3
 rw [if_neg h2] at h3
 by_cases hl : e.c < ch.length
 case neg => rw [if_neg hl] at h3; cases h3
 rw [if_pos hl] at h3
 cases h3
 by_cases hk : e.k = 3 ∨ e.k = 4 ∨ e.k = 5
 ·have h0 : 0 ≤ e.c := f.c (by omega)
  have hn : e.c.toNat < ch.length := by omega
  have ce : ((e.c.toNat : Nat) : Int) = e.c := by omega
  have ha := I.at_ _ hn
  rw [ce] at ha
  by_cases hm : moves e = true
  ·have hr : r5 ch e nx = if (mov (K e.c) e nx).right then some (ch.set e.c.toNat (chOf (mov (K e.c) e nx))) else none := by
    unfold r5
    rw [if_pos hm, ha.1, r5c_is f ha.2]
    cases (mov (K e.c) e nx).right <;> rfl
   rw [hr]
   refine ⟨?_, fun ch5 h5 => ?_⟩
   ·unfold ordered
    rw [if_pos hm]
    cases (mov (K e.c) e nx).right <;> rfl
   ·have hx : ch5 = ch.set e.c.toNat (chOf (mov (K e.c) e nx)) := by
     revert h5
     cases (mov (K e.c) e nx).right <;> simp
     intro q; exact q.symm
    have hi : ins (K e.c) e.c e nx = mov (K e.c) e nx := by simp [ins, hm]
    have hg : (ch.set e.c.toNat (chOf (mov (K e.c) e nx))).getD e.c.toNat chz = chOf (mov (K e.c) e nx) := by simp [List.getD_eq_getElem?_getD, hn]
    have hcl : (chOf (mov (K e.c) e nx)).cl = (K e.c).closed := mov_closed _ _ _
    have IMs := I.set e nx h2 h0 hl (chOf (mov (K e.c) e nx)) (by rw [hi])
    subst hx
    rcases moves_k hm with k3 | ⟨k4, ko⟩
    ·have hr6 : r6 (ch.set e.c.toNat (chOf (mov (K e.c) e nx))) e = if (K e.c).closed then none else some (ch.set e.c.toNat (chOf (mov (K e.c) e nx))) := by
      unfold r6; simp only [hg, hcl]; simp [k3]
     rw [hr6]
     refine ⟨by simp [closedF, k3]; cases (K e.c).closed <;> rfl, fun ch6 h6 => ?_⟩
     revert h6
     cases (K e.c).closed <;> simp
     intro q; subst q; exact IMs
    ·have hr6 : r6 (ch.set e.c.toNat (chOf (mov (K e.c) e nx))) e = if e.m = -1 ∨ (K e.c).closed = false then some (ch.set e.c.toNat (chOf (mov (K e.c) e nx))) else none := by
      unfold r6; simp only [hg, hcl]; simp [k4, ko]
     rw [hr6]
     refine ⟨?_, fun ch6 h6 => ?_⟩
     ·have := f.m
      by_cases hmm : e.m = -1
      ·simp [closedF, k4, ko, hmm]
      ·have : ¬ (e.m < 0) := by omega
       simp only [closedF, k4, ko, hmm, this]
       cases (K e.c).closed <;> simp
     ·split at h6
      ·cases h6; exact IMs
      ·cases h6
  ·have hm : moves e = false := by simpa using hm
   refine ⟨by simp [r5, ordered, hm], fun ch5 h5 => ?_⟩
   simp only [r5, hm] at h5
   cases h5
   by_cases k5 : e.k = 5
   ·have hr6 : r6 ch e = if (K e.c).closed then none else some (ch.set e.c.toNat ⟨(K e.c).size, (K e.c).L, true⟩) := by
     unfold r6; simp only [ha.1]; rw [if_pos k5]; rfl
    rw [hr6]
    refine ⟨by simp [closedF, k5]; cases (K e.c).closed <;> rfl, fun ch6 h6 => ?_⟩
    have IMs := I.set e nx h2 h0 hl ⟨(K e.c).size, (K e.c).L, true⟩ (by simp [ins, hm, k5, chOf])
    revert h6
    cases (K e.c).closed <;> simp
    intro q; subst q; exact IMs
   ·have k4 : e.k = 4 := by
     rcases hk with q | q | q
     ·exact absurd hm (by simp [moves, q])
     ·exact q
     ·exact absurd q k5
    have ko : e.o = false := by simpa [moves, k4] using hm
    have hr6 : r6 ch e = if (K e.c).closed && (K e.c).L.isEmpty then some ch else none := by
     unfold r6; simp only [ha.1]; simp [k4, ko, chOf]
    rw [hr6]
    refine ⟨by simp only [closedF, k4, ko]; cases ((K e.c).closed && (K e.c).L.isEmpty) <;> simp, fun ch6 h6 => ?_⟩
    split at h6
    ·cases h6; exact I.rest e nx h2 k5 hm
    ·cases h6
 ·have n3 : e.k ≠ 3 := fun q => hk (.inl q)
  have n4 : e.k ≠ 4 := fun q => hk (.inr (.inl q))
  have n5 : e.k ≠ 5 := fun q => hk (.inr (.inr q))
  have hm : moves e = false := by simp [moves, n3, n4]
  refine ⟨by simp [r5, ordered, hm], fun ch5 h5 => ?_⟩
  simp only [r5, hm] at h5
  cases h5
  have hcf : closedF (K e.c) e = true := by
   unfold closedF
   rw [if_pos (by omega)]
  refine ⟨by rw [hcf]; simp [r6, n3, n4, n5], fun ch6 h6 => ?_⟩
  simp [r6, n3, n4, n5] at h6
  subst h6
  exact I.rest e nx h2 n5 hm
theorem fit_of {e : Ev} (h : chk e = 0) : Fit e := by
 have hk : ¬ (e.k < 1 ∨ 13 < e.k) := fun q => by simp [chk, q] at h
 have hb : (ff e && okF e) = true := by
  apply Classical.byContradiction
  intro q
  simp [chk, hk, q] at h
 have hf : ff e = true := by revert hb; cases ff e <;> simp
 have ho : okF e = true := by revert hb; rw [hf]; simp
 have o0 := okF_at ho 0 (by decide)
 have o1 := okF_at ho 1 (by decide)
 have o3 := okF_at ho 3 (by decide)
 have o4 := okF_at ho 4 (by decide)
 obtain ⟨k, g, c, a, v, m, s, o⟩ := e
 simp only at hk
 have hc : k = 1 ∨ k = 2 ∨ k = 3 ∨ k = 4 ∨ k = 5 ∨ k = 6 ∨ k = 7 ∨ k = 8 ∨ k = 9 ∨ k = 10 ∨ k = 11 ∨ k = 12 ∨ k = 13 := by omega
 clear h hk hb ho
 rcases hc with rfl | rfl | rfl | rfl | rfl | rfl | rfl | rfl | rfl | rfl | rfl | rfl | rfl <;>
  simp [okA, spn, fl, Ba.nth, inS, ml, mh, ff] at o0 o1 o3 o4 hf <;>
  (try (by_cases ha : a = -1 <;> simp [ha] at o0 o1 o3 o4)) <;>
  exact ⟨fun q => by simp at q ⊢ <;> omega, fun q => by simp at q ⊢ <;> omega, by simp; omega, fun q => by simp at q ⊢ <;> simp_all, fun q => by simp at q ⊢ <;> simp_all, fun q => by simp at q ⊢ <;> omega⟩
def inn (l : List Ev) : Nat → Int → In
 | 0, _ => in0
 | n + 1, c => match l[n]? with
   | some e => ins (inn l n c) c e l[n + 1]?
   | none => inn l n c
def ruleD (l : List Ev) (i : Nat) (e : Ev) : Int :=
 if 2000 ≤ i ∨ chk e ≠ 0 then 1
 else if crew (l.take i) e = false then 2
 else if made (l.take i) e = false then 3
 else if served (l.take i).reverse e = false then 4
 else if ordered (inn l i e.c) e l[i + 1]? = false then 5
 else if closedF (inn l i e.c) e = false then 6
 else 0
structure Gs where
 st : List Int
 pn : Bool
 ch : List Chn
 la : Ev
def stepG (s : Gs) (i : Nat) (e : Ev) (nx : Option Ev) : Except Int Gs :=
 if 2000 ≤ i ∨ chk e ≠ 0 then .error 1
 else match r2 s.st s.pn e with
 | none => .error 2
 | some (st, pn) => match r3 s.ch e with
   | none => .error 3
   | some ch3 => match r4 s.la e with
     | none => .error 4
     | some la => match r5 ch3 e nx with
       | none => .error 5
       | some ch5 => match r6 ch5 e with
         | none => .error 6
         | some ch6 => .ok ⟨st, pn, ch6, la⟩
structure IG (l : List Ev) (i : Nat) (s : Gs) : Prop where
 c : IC (l.take i) s.st s.pn
 m : IM (l.take i) (inn l i) s.ch
 s : IS (l.take i).reverse s.la
def gs0 : Gs := ⟨[0], false, [], ev0⟩
theorem IG.nil (l : List Ev) : IG l 0 gs0 := by
 refine ⟨?_, ?_, ?_⟩
 ·rw [List.take_zero]; exact IC.nil
 ·have : inn l 0 = fun _ => in0 := by funext c; rfl
  rw [this, List.take_zero]; exact IM.nil
 ·rw [List.take_zero]; exact IS.nil
theorem stepG_is {l : List Ev} {i : Nat} {e : Ev} {s : Gs} (I : IG l i s) (he : l[i]? = some e) :
 (∃ n, n ≠ 0 ∧ ruleD l i e = n ∧ stepG s i e l[i + 1]? = .error n) ∨ (ruleD l i e = 0 ∧ ∃ s', stepG s i e l[i + 1]? = .ok s' ∧ IG l (i + 1) s') := by
 have ht : l.take (i + 1) = l.take i ++ [e] := by rw [List.take_add_one, he]; rfl
 have hK : inn l (i + 1) = fun c => ins (inn l i c) c e l[i + 1]? := by funext c; simp [inn, he]
 unfold ruleD stepG
 by_cases h1 : 2000 ≤ i ∨ chk e ≠ 0
 ·exact .inl ⟨1, by decide, by rw [if_pos h1], by rw [if_pos h1]⟩
 rw [if_neg h1, if_neg h1]
 have f : Fit e := fit_of (by omega)
 have q2 := r2_some I.c e f.g
 cases e2 : r2 s.st s.pn e with
 | none =>
   rw [e2] at q2
   exact .inl ⟨2, by decide, if_pos (by rw [← q2]; rfl), rfl⟩
 | some sp =>
 obtain ⟨st, pn⟩ := sp
 have c2 := r2_keeps I.c e f.g e2
 rw [e2] at q2
 rw [if_neg (by rw [← q2]; simp)]
 have q3 := r3_some I.m e
 cases e3 : r3 s.ch e with
 | none =>
   rw [e3] at q3
   exact .inl ⟨3, by decide, if_pos (by rw [← q3]; rfl), rfl⟩
 | some ch3 =>
 rw [e3] at q3
 rw [if_neg (by rw [← q3]; simp)]
 have q4 := r4_some I.s e
 cases e4 : r4 s.la e with
 | none =>
   rw [e4] at q4
   exact .inl ⟨4, by decide, if_pos (by rw [← q4]; rfl), rfl⟩
 | some la =>
 have c4 := r4_keeps I.s e f e4
 rw [e4] at q4
 rw [if_neg (by rw [← q4]; simp)]
 obtain ⟨q5, c5⟩ := chans I.m e f l[i + 1]? e3
 cases e5 : r5 ch3 e l[i + 1]? with
 | none =>
   rw [e5] at q5
   exact .inl ⟨5, by decide, if_pos (by rw [← q5]; rfl), by simp only [e5]⟩
 | some ch5 =>
 rw [e5] at q5
 rw [if_neg (by rw [← q5]; simp)]
 obtain ⟨q6, c6⟩ := c5 _ e5
 cases e6 : r6 ch5 e with
 | none =>
   rw [e6] at q6
   exact .inl ⟨6, by decide, if_pos (by rw [← q6]; rfl), by simp only [e5, e6]⟩
 | some ch6 =>
 rw [e6] at q6
 rw [if_neg (by rw [← q6]; simp)]
 refine .inr ⟨rfl, _, by simp only [e5, e6]; rfl, ⟨?_, ?_, ?_⟩⟩
 ·rw [ht]; exact c2
 ·rw [ht, hK]; exact c6 _ e6
 ·rw [ht, List.reverse_append]; exact c4
theorem IG.owed {l : List Ev} {s : Gs} (I : IG l l.length s) : owed s.la = l.getLast?.any serves := by
 have := I.s.ow
 rw [List.take_length, List.head?_reverse] at this
 exact this
end Gu
end Go.Proofs.YtblfimobiibmjaaGreat
namespace Go.Proofs.YtblfimobiibmjaaGreat
namespace Eg
open En Gu
structure Ed where
 f : Nat
 t : Nat
 r : Nat
theorem take_succ {l : List Ev} {i : Nat} {e : Ev} (h : l[i]? = some e) : l.take (i + 1) = l.take i ++ [e] := by
 rw [List.take_add_one, h]
 rfl
theorem there_take {l : List Ev} {i : Nat} {e : Ev} (h : l[i]? = some e) : there (l.take (i + 1)) = there (l.take i) + if e.k = 1 then 1 else 0 := by
 rw [take_succ h, there_app]
theorem there_mono (l : List Ev) {i j : Nat} (h : i ≤ j) : there (l.take i) ≤ there (l.take j) := by
 induction j with
 | zero =>
   have : i = 0 := by omega
   subst this
   exact Nat.le_refl _
 | succ j ih =>
   rcases Nat.lt_or_ge i (j + 1) with q | q
   ·refine Nat.le_trans (ih (by omega)) ?_
    cases he : l[j]? with
    | none =>
      have hl := List.getElem?_eq_none_iff.1 he
      rw [List.take_of_length_le (by omega), List.take_of_length_le (by omega)]
      exact Nat.le_refl _
    | some e =>
      rw [there_take he]
      omega
   ·have : i = j + 1 := by omega
    subst this
    exact Nat.le_refl _
structure Cw (l : List Ev) : Prop where
 c : ∀ (i : Nat) (e : Ev), l[i]? = some e → crew (l.take i) e = true
 g : ∀ (i : Nat) (e : Ev), l[i]? = some e → e.k ≠ 13 → 0 ≤ e.g
theorem Cw.lt {l : List Ev} (h : Cw l) {i : Nat} {e : Ev} (he : l[i]? = some e) (hk : e.k ≠ 13) : e.g < there (l.take i) := by
 have := h.c i e he
 unfold crew at this
 simp [hk] at this
 exact this.2.1.1.1
theorem Cw.m {l : List Ev} (h : Cw l) {i : Nat} {e : Ev} (he : l[i]? = some e) (hk : e.k = 1) : e.m = there (l.take i) := by
 have := h.c i e he
 unfold crew at this
 simp [hk] at this
 exact this.2.2
def pst (i : Nat) (ah : Int → Option (Nat × Nat)) (e : Ev) : Int → Option (Nat × Nat) :=
 if e.k = 13 then ah else fun g => if e.k = 1 ∧ g = e.m then some (i, 2) else if g = e.g then some (i, 1) else ah g
def ahF (l : List Ev) : Nat → Int → Option (Nat × Nat)
 | 0 => fun _ => none
 | i + 1 => match l[i]? with
   | none => ahF l i
   | some e => pst i (ahF l i) e
theorem ah_succ {l : List Ev} {i : Nat} {e : Ev} (h : l[i]? = some e) : ahF l (i + 1) = pst i (ahF l i) e := by
 show (match l[i]? with | none => ahF l i | some e => pst i (ahF l i) e) = _
 rw [h]
def outP (l : List Ev) (i : Nat) : List Ed := match l[i]? with
 | none => []
 | some e => if e.k = 13 then [] else match ahF l i e.g with
   | none => []
   | some (f, r) => [⟨f, i, r⟩]
def progE (l : List Ev) (n : Nat) : List Ed := (List.range n).flatMap (outP l)
theorem prog_succ (l : List Ev) (n : Nat) : progE l (n + 1) = progE l n ++ outP l n := by
 unfold progE
 rw [List.range_succ, List.flatMap_append]
 simp
def btw (l : List Ev) (f t : Nat) (g : Int) : Prop := ∃ (k : Nat) (e : Ev), f < k ∧ k < t ∧ l[k]? = some e ∧ e.g = g ∧ e.k ≠ 13
def by1 (l : List Ev) (f t : Nat) (g : Int) : Prop := f < t ∧ (∃ e, l[f]? = some e ∧ e.k ≠ 13 ∧ e.g = g) ∧ ¬ btw l f t g
def by2 (l : List Ev) (f t : Nat) (g : Int) : Prop := f < t ∧ (∃ e, l[f]? = some e ∧ e.k = 1 ∧ e.m = g) ∧ ¬ btw l f t g
theorem btw_succ {l : List Ev} {f i : Nat} {g : Int} {e : Ev} (he : l[i]? = some e) : btw l f (i + 1) g ↔ btw l f i g ∨ (f < i ∧ e.g = g ∧ e.k ≠ 13) := by
 constructor
 ·rintro ⟨k, x, h1, h2, h3, h4, h5⟩
  rcases Nat.lt_or_ge k i with q | q
  ·exact .inl ⟨k, x, h1, q, h3, h4, h5⟩
  ·have : k = i := by omega
   subst this
   rw [he] at h3
   cases h3
   exact .inr ⟨h1, h4, h5⟩
 ·rintro (⟨k, x, h1, h2, h3, h4, h5⟩ | ⟨h1, h2, h3⟩)
  ·exact ⟨k, x, h1, by omega, h3, h4, h5⟩
  ·exact ⟨i, e, h1, by omega, he, h2, h3⟩
theorem ah_is {l : List Ev} (h : Cw l) : ∀ (i : Nat), i ≤ l.length → ∀ (g : Int) (f : Nat), (ahF l i g = some (f, 1) ↔ by1 l f i g) ∧ (ahF l i g = some (f, 2) ↔ by2 l f i g) ∧ ∀ r, ahF l i g = some (f, r) → r = 1 ∨ r = 2
 | 0, _, g, f => by
   exact ⟨⟨(fun e => by cases e), fun e => absurd e.1 (by omega)⟩, ⟨(fun e => by cases e), fun e => absurd e.1 (by omega)⟩, (fun r e => by cases e)⟩
 | i + 1, hi, g, f => by
   obtain ⟨e, he⟩ : ∃ e, l[i]? = some e := ⟨_, List.getElem?_eq_getElem (by omega)⟩
   obtain ⟨ih1, ih2, ih3⟩ := ah_is h i (by omega) g f
   rw [ah_succ he]
   unfold pst
   have B := @btw_succ l f i g e he
   by_cases h13 : e.k = 13
   ·rw [if_pos h13]
    have B' : btw l f (i + 1) g ↔ btw l f i g := by rw [B]; simp [h13]
    refine ⟨ih1.trans ⟨fun q => ⟨by have := q.1; omega, q.2.1, fun z => q.2.2 (B'.1 z)⟩, fun q => ?_⟩, ih2.trans ⟨fun q => ⟨by have := q.1; omega, q.2.1, fun z => q.2.2 (B'.1 z)⟩, fun q => ?_⟩, ih3⟩
    ·obtain ⟨q1, ⟨x, x1, x2, x3⟩, q3⟩ := q
     refine ⟨?_, ⟨x, x1, x2, x3⟩, fun z => q3 (B'.2 z)⟩
     rcases Nat.lt_or_ge f i with z | z
     ·exact z
     ·have : f = i := by omega
      subst this
      rw [he] at x1
      cases x1
      exact absurd h13 x2
    ·obtain ⟨q1, ⟨x, x1, x2, x3⟩, q3⟩ := q
     refine ⟨?_, ⟨x, x1, x2, x3⟩, fun z => q3 (B'.2 z)⟩
     rcases Nat.lt_or_ge f i with z | z
     ·exact z
     ·have : f = i := by omega
      subst this
      rw [he] at x1
      cases x1
      omega
   ·rw [if_neg h13]
    have hlt := h.lt he h13
    by_cases hm : e.k = 1 ∧ g = e.m
    ·rw [if_pos hm]
     have em := h.m he hm.1
     refine ⟨⟨(fun q => by simp at q), fun q => ?_⟩, ⟨fun q => ?_, fun q => ?_⟩, (fun r q => by simp at q; exact .inr q.2.symm)⟩
     ·exfalso
      obtain ⟨q1, ⟨x, x1, x2, x3⟩, q3⟩ := q
      have hx := h.lt x1 x2
      have mono := there_mono l (show f ≤ i by omega)
      rw [x3, hm.2, em] at hx
      omega
     ·simp at q
      obtain rfl := q
      refine ⟨by omega, ⟨e, he, hm.1, hm.2.symm⟩, ?_⟩
      rintro ⟨k, x, k1, k2, -⟩
      omega
     ·obtain ⟨q1, ⟨x, x1, x2, x3⟩, q3⟩ := q
      rcases Nat.lt_or_ge f i with z | z
      ·exfalso
       have xm := h.m x1 x2
       have m1 := there_take x1
       have mono := there_mono l (show f + 1 ≤ i by omega)
       rw [if_pos x2] at m1
       rw [hm.2, em] at x3
       omega
      ·have : f = i := by omega
       subst this
       rfl
    ·rw [if_neg hm]
     by_cases hg : g = e.g
     ·rw [if_pos hg]
      refine ⟨⟨fun q => ?_, fun q => ?_⟩, ⟨(fun q => by simp at q), fun q => ?_⟩, (fun r q => by simp at q; exact .inl q.2.symm)⟩
      ·simp at q
       obtain rfl := q
       refine ⟨by omega, ⟨e, he, h13, hg.symm⟩, ?_⟩
       rintro ⟨k, x, k1, k2, -⟩
       omega
      ·obtain ⟨q1, ⟨x, x1, x2, x3⟩, q3⟩ := q
       rcases Nat.lt_or_ge f i with z | z
       ·exact absurd (B.2 (.inr ⟨z, hg.symm, h13⟩)) q3
       ·have : f = i := by omega
        subst this
        rfl
      ·exfalso
       obtain ⟨q1, ⟨x, x1, x2, x3⟩, q3⟩ := q
       rcases Nat.lt_or_ge f i with z | z
       ·exact q3 (B.2 (.inr ⟨z, hg.symm, h13⟩))
       ·have : f = i := by omega
        subst this
        rw [he] at x1
        cases x1
        exact hm ⟨x2, x3.symm⟩
     ·rw [if_neg hg]
      have B' : btw l f (i + 1) g ↔ btw l f i g := by rw [B]; exact ⟨fun q => q.elim id (fun q => absurd q.2.1.symm hg), .inl⟩
      refine ⟨ih1.trans ⟨fun q => ⟨by have := q.1; omega, q.2.1, fun z => q.2.2 (B'.1 z)⟩, fun q => ?_⟩, ih2.trans ⟨fun q => ⟨by have := q.1; omega, q.2.1, fun z => q.2.2 (B'.1 z)⟩, fun q => ?_⟩, ih3⟩
      ·obtain ⟨q1, ⟨x, x1, x2, x3⟩, q3⟩ := q
       refine ⟨?_, ⟨x, x1, x2, x3⟩, fun z => q3 (B'.2 z)⟩
       rcases Nat.lt_or_ge f i with z | z
       ·exact z
       ·have : f = i := by omega
        subst this
        rw [he] at x1
        cases x1
        exact absurd x3.symm hg
      ·obtain ⟨q1, ⟨x, x1, x2, x3⟩, q3⟩ := q
       refine ⟨?_, ⟨x, x1, x2, x3⟩, fun z => q3 (B'.2 z)⟩
       rcases Nat.lt_or_ge f i with z | z
       ·exact z
       ·have : f = i := by omega
        subst this
        rw [he] at x1
        cases x1
        exact absurd ⟨x2, x3.symm⟩ hm
def is1 (l : List Ev) (f t : Nat) : Prop := ∃ b, l[t]? = some b ∧ b.k ≠ 13 ∧ by1 l f t b.g
def is2 (l : List Ev) (f t : Nat) : Prop := ∃ b, l[t]? = some b ∧ b.k ≠ 13 ∧ by2 l f t b.g
theorem prog_mem {l : List Ev} (h : Cw l) (x : Ed) : x ∈ progE l l.length ↔ (x.r = 1 ∧ is1 l x.f x.t) ∨ (x.r = 2 ∧ is2 l x.f x.t) := by
 unfold progE
 rw [List.mem_flatMap]
 constructor
 ·rintro ⟨i, hi, hx⟩
  rw [List.mem_range] at hi
  obtain ⟨e, he⟩ : ∃ e, l[i]? = some e := ⟨_, List.getElem?_eq_getElem hi⟩
  unfold outP at hx
  rw [he] at hx
  simp only at hx
  split at hx
  ·simp at hx
  ·rename_i h13
   cases ha : ahF l i e.g with
   | none => rw [ha] at hx; simp at hx
   | some p =>
     obtain ⟨f, r⟩ := p
     rw [ha] at hx
     simp at hx
     subst hx
     obtain ⟨a1, a2, a3⟩ := ah_is h i (by omega) e.g f
     rcases a3 r ha with rfl | rfl
     ·exact .inl ⟨rfl, e, he, h13, a1.1 ha⟩
     ·exact .inr ⟨rfl, e, he, h13, a2.1 ha⟩
 ·rintro (⟨hr, b, hb, h13, hy⟩ | ⟨hr, b, hb, h13, hy⟩)
  ·have ht := (List.getElem?_eq_some_iff.1 hb).1
   refine ⟨x.t, List.mem_range.2 ht, ?_⟩
   unfold outP
   rw [hb]
   simp only
   rw [if_neg h13, (ah_is h x.t (by omega) b.g x.f).1.2 hy]
   simp
   cases x
   simp_all
  ·have ht := (List.getElem?_eq_some_iff.1 hb).1
   refine ⟨x.t, List.mem_range.2 ht, ?_⟩
   unfold outP
   rw [hb]
   simp only
   rw [if_neg h13, (ah_is h x.t (by omega) b.g x.f).2.1.2 hy]
   simp
   cases x
   simp_all
end Eg
end Go.Proofs.YtblfimobiibmjaaGreat
namespace Go.Proofs.YtblfimobiibmjaaGreat
namespace Eg
open En Gu
def Tok (l : List Ev) : Prop := ∀ (i : Nat) (e : Ev), l[i]? = some e → ruleD l i e = 0
structure Rl (l : List Ev) (i : Nat) (e : Ev) : Prop where
 fit : Fit e
 cw : crew (l.take i) e = true
 md : made (l.take i) e = true
 sv : Gu.served (l.take i).reverse e = true
 od : ordered (inn l i e.c) e l[i + 1]? = true
 cl : closedF (inn l i e.c) e = true
theorem Tok.at {l : List Ev} (h : Tok l) {i : Nat} {e : Ev} (he : l[i]? = some e) : Rl l i e := by
 have q := h i e he
 unfold ruleD at q
 split at q
 ·omega
 ·rename_i h1
  split at q
  ·omega
  ·rename_i h2
   split at q
   ·omega
   ·rename_i h3
    split at q
    ·omega
    ·rename_i h4
     split at q
     ·omega
     ·rename_i h5
      split at q
      ·omega
      ·rename_i h6
       exact ⟨fit_of (by omega), by simpa using h2, by simpa using h3, by simpa using h4, by simpa using h5, by simpa using h6⟩
theorem Tok.cw {l : List Ev} (h : Tok l) : Cw l := ⟨fun _ _ he => (h.at he).cw, fun _ _ he => (h.at he).fit.g⟩
theorem Tok.ig {l : List Ev} (h : Tok l) : ∀ i, i ≤ l.length → ∃ s, IG l i s
 | 0, _ => ⟨_, IG.nil l⟩
 | i + 1, hi => by
   obtain ⟨s, I⟩ := h.ig i (by omega)
   obtain ⟨e, he⟩ : ∃ e, l[i]? = some e := ⟨_, List.getElem?_eq_getElem (by omega)⟩
   rcases stepG_is I he with ⟨n, h1, h2, -⟩ | ⟨-, s', -, I'⟩
   ·exact absurd (h2.symm.trans (h i e he)) h1
   ·exact ⟨s', I'⟩
theorem Tok.served {l : List Ev} (h : Tok l) {i : Nat} {e x : Ev} (he : l[i]? = some e) (hs : serves e = true) (hx : l[i + 1]? = some x) : x.k = 7 ∧ x.g = e.m ∧ x.m = e.g ∧ x.c = e.c ∧ x.s = !e.s ∧ x.o = true := by
 have q := (h.at hx).sv
 rw [take_succ he, List.reverse_append] at q
 have q2 : servF e x = true := by
  have : Gu.served (e :: (l.take i).reverse) x = servF e x := by simp [Gu.served, hs]
  rw [← this]
  exact q
 unfold servF at q2
 simp at q2
 obtain ⟨⟨⟨⟨⟨⟨h1, h2⟩, h3⟩, h4⟩, h5⟩, h6⟩, -⟩ := q2
 refine ⟨h1, h2, h3, h4, ?_, h6⟩
 revert h5
 cases x.s <;> cases e.s <;> simp
theorem moves_serves {e : Ev} (hm : moves e = true) (h : 0 ≤ e.m) : serves e = true := by
 unfold moves at hm
 unfold serves
 simp at hm ⊢
 exact ⟨by rcases hm with q | q; exact .inl q; exact .inr q.1, h⟩
def one (l : List Ev) (c : Int) (b : Bool) (i : Nat) : List Nat := match l[i]? with
 | none => []
 | some e => if e.c ≠ c ∨ moves e = false then [] else if e.s = b then [i] else if 0 ≤ e.m ∧ i + 1 < l.length then [i + 1] else []
def done (l : List Ev) (c : Int) (b : Bool) (n : Nat) : List Nat := (List.range n).flatMap (one l c b)
theorem done_succ (l : List Ev) (c : Int) (b : Bool) (n : Nat) : done l c b (n + 1) = done l c b n ++ one l c b n := by
 unfold done
 rw [List.range_succ, List.flatMap_append]
 simp
theorem one_at {l : List Ev} (h : Tok l) {c : Int} {b : Bool} {i j : Nat} (hj : j ∈ one l c b i) : (∃ e, l[j]? = some e ∧ e.c = c) ∧ (j = i ∨ (j = i + 1 ∧ ∃ x, l[j]? = some x ∧ x.k = 7)) := by
 unfold one at hj
 cases he : l[i]? with
 | none => rw [he] at hj; simp at hj
 | some e =>
   rw [he] at hj
   simp only at hj
   split at hj
   ·simp at hj
   ·rename_i h1
    have hc : e.c = c := by
     rcases Classical.em (e.c = c) with q | q
     ·exact q
     ·exact absurd (.inl q) h1
    have hm : moves e = true := by
     cases q : moves e
     ·exact absurd (.inr q) h1
     ·rfl
    split at hj
    ·simp at hj
     subst hj
     exact ⟨⟨e, he, hc⟩, .inl rfl⟩
    ·split at hj
     ·rename_i h3
      simp at hj
      subst hj
      obtain ⟨x, hx⟩ : ∃ x, l[i + 1]? = some x := ⟨_, List.getElem?_eq_getElem h3.2⟩
      obtain ⟨k7, -, -, k4, -⟩ := h.served he (moves_serves hm h3.1) hx
      exact ⟨⟨x, hx, k4.trans hc⟩, .inr ⟨rfl, x, hx, k7⟩⟩
     ·simp at hj
theorem done_lt {l : List Ev} (h : Tok l) {c : Int} {b : Bool} : ∀ (n j : Nat), j ∈ done l c b n → (∃ e, l[j]? = some e ∧ e.c = c) ∧ (j < n ∨ (j = n ∧ ∃ x, l[n]? = some x ∧ x.k = 7))
 | 0, j, hj => by simp [done] at hj
 | n + 1, j, hj => by
   rw [done_succ, List.mem_append] at hj
   rcases hj with q | q
   ·obtain ⟨a, z⟩ := done_lt h n j q
    exact ⟨a, .inl (by rcases z with z | ⟨z, -⟩ <;> omega)⟩
   ·obtain ⟨a, z⟩ := one_at h q
    refine ⟨a, ?_⟩
    rcases z with z | ⟨z, x, hx, k7⟩
    ·exact .inl (by omega)
    ·subst z
     exact .inr ⟨rfl, x, hx, k7⟩
theorem done_rises {l : List Ev} (h : Tok l) {c : Int} {b : Bool} : ∀ n, (done l c b n).Pairwise (· < ·)
 | 0 => by simp [done]
 | n + 1 => by
   rw [done_succ, List.pairwise_append]
   refine ⟨done_rises h n, ?_, fun a ha j hj => ?_⟩
   ·unfold one
    split
    ·exact List.Pairwise.nil
    ·split
     ·exact List.Pairwise.nil
     ·split
      ·simp
      ·split <;> simp
   ·obtain ⟨-, z⟩ := done_lt h n a ha
    obtain ⟨-, y⟩ := one_at h hj
    have hn : ¬ (∃ x, l[n]? = some x ∧ x.k = 7) := by
     rintro ⟨x, hx, k7⟩
     unfold one at hj
     rw [hx] at hj
     have : moves x = false := by simp [moves, k7]
     simp [this] at hj
    rcases z with z | ⟨-, z⟩
    ·rcases y with y | ⟨y, -⟩ <;> omega
    ·exact absurd z hn
end Eg
end Go.Proofs.YtblfimobiibmjaaGreat
namespace Go.Proofs.YtblfimobiibmjaaGreat
namespace Eg
open En Gu
def pkF (l : List Ev) (g : Int) : Nat → Option Nat
 | 0 => none
 | n + 1 => match l[n]? with
   | some e => if e.k = 6 ∧ e.g = g then some n else pkF l g n
   | none => pkF l g n
def bg (l : List Ev) (i : Nat) : Nat := match l[i]? with
 | none => i
 | some e => if e.k ≠ 7 then i else (pkF l e.g i).getD i
theorem pk_at {l : List Ev} {g : Int} : ∀ {n p : Nat}, pkF l g n = some p → p < n ∧ ∃ e, l[p]? = some e ∧ e.k = 6 ∧ e.g = g
 | 0, p, h => by cases h
 | n + 1, p, h => by
   unfold pkF at h
   cases he : l[n]? with
   | none =>
     rw [he] at h
     obtain ⟨a, b⟩ := pk_at h
     exact ⟨by omega, b⟩
   | some e =>
     rw [he] at h
     simp only at h
     split at h
     ·rename_i h1
      cases h
      exact ⟨by omega, e, he, h1⟩
     ·obtain ⟨a, b⟩ := pk_at h
      exact ⟨by omega, b⟩
theorem pk_waits {l : List Ev} {g : Int} : ∀ {n : Nat}, n ≤ l.length → waitsF g (l.take n) = true → ∃ p, pkF l g n = some p
 | 0, _, h => by simp [waitsF] at h
 | n + 1, hn, h => by
   obtain ⟨e, he⟩ : ∃ e, l[n]? = some e := ⟨_, List.getElem?_eq_getElem (by omega)⟩
   rw [take_succ he, waits_app] at h
   unfold pkF
   rw [he]
   simp only
   by_cases h1 : e.k = 6 ∧ e.g = g
   ·exact ⟨n, if_pos h1⟩
   ·rw [if_neg h1]
    apply pk_waits (by omega)
    unfold wstep at h
    split at h
    ·exact h
    ·rename_i hg
     have hg' : e.g = g := by
      rcases Classical.em (e.g = g) with q | q
      ·exact q
      ·exact absurd q hg
     rw [if_neg (fun h6 => h1 ⟨h6, hg'⟩)] at h
     split at h
     ·cases h
     ·exact h
theorem Tok.waits {l : List Ev} (h : Tok l) {i : Nat} {e : Ev} (he : l[i]? = some e) (hk : e.k = 7) : waitsF e.g (l.take i) = true := by
 have q := (h.at he).cw
 unfold crew at q
 simp [hk] at q
 exact q.2.2
theorem bg_le {l : List Ev} (i : Nat) : bg l i ≤ i := by
 unfold bg
 split
 ·exact Nat.le_refl _
 ·split
  ·exact Nat.le_refl _
  ·rename_i e _ _
   cases hp : pkF l e.g i with
   | none => exact Nat.le_refl _
   | some p => exact Nat.le_of_lt (pk_at hp).1
theorem bg_wake {l : List Ev} (h : Tok l) {i : Nat} {e : Ev} (he : l[i]? = some e) (hk : e.k = 7) : ∃ p x, bg l i = p ∧ p < i ∧ pkF l e.g i = some p ∧ l[p]? = some x ∧ x.k = 6 ∧ x.g = e.g := by
 obtain ⟨p, hp⟩ := pk_waits (Nat.le_of_lt (List.getElem?_eq_some_iff.1 he).1) (h.waits he hk)
 obtain ⟨a, x, b, c, d⟩ := pk_at hp
 refine ⟨p, x, ?_, a, hp, b, c, d⟩
 unfold bg
 rw [he]
 simp [hk, hp]
theorem bg_served {l : List Ev} (h : Tok l) {i : Nat} {e : Ev} (he : l[i]? = some e) (hm : moves e = true) (h0 : 0 ≤ e.m) (hl : i + 1 < l.length) : bg l (i + 1) < i := by
 obtain ⟨x, hx⟩ : ∃ x, l[i + 1]? = some x := ⟨_, List.getElem?_eq_getElem hl⟩
 obtain ⟨k7, -⟩ := h.served he (moves_serves hm h0) hx
 obtain ⟨p, y, e1, e2, -, e4, e5, -⟩ := bg_wake h hx k7
 rw [e1]
 rcases Nat.lt_or_ge p i with q | q
 ·exact q
 ·exfalso
  have : p = i := by omega
  subst this
  rw [he] at e4
  cases e4
  unfold moves at hm
  simp [e5] at hm
def mkN (p : List Ev) : Nat := p.countP fun x => decide (x.k = 2)
theorem mkN_mono (l : List Ev) {i j : Nat} (h : i ≤ j) : mkN (l.take i) ≤ mkN (l.take j) := by
 have : l.take i = (l.take j).take i := by rw [List.take_take, Nat.min_eq_left h]
 unfold mkN
 rw [this]
 exact List.Sublist.countP_le (List.take_sublist _ _)
theorem inn_succ {l : List Ev} {n : Nat} {e : Ev} (he : l[n]? = some e) (c : Int) : inn l (n + 1) c = ins (inn l n c) c e l[n + 1]? := by
 show (match l[n]? with | some e => ins (inn l n c) c e l[n + 1]? | none => inn l n c) = _
 rw [he]
theorem mov_size (s : In) (e : Ev) (nx : Option Ev) : (mov s e nx).size = s.size := by
 unfold mov
 split
 ·split <;> rfl
 ·rfl
theorem size_step {l : List Ev} (h : Tok l) {n : Nat} {e : Ev} (he : l[n]? = some e) {c : Int} (hc : c < mkN (l.take n)) : (inn l (n + 1) c).size = (inn l n c).size := by
 rw [inn_succ he]
 unfold ins
 split
 ·rfl
 ·rename_i h1
  split
  ·exact mov_size _ _ _
  ·show (if e.k = 2 then e.v else _) = _
   rw [if_neg]
   intro h2
   have q := (h.at he).md
   unfold made at q
   rw [if_pos h2] at q
   have q' : e.c = (mkN (l.take n) : Int) := by simpa [mkN] using q
   have : e.c = c := by
    rcases Classical.em (e.c = c) with z | z
    ·exact z
    ·exact absurd z h1
   omega
theorem size_const {l : List Ev} (h : Tok l) {c : Int} {n : Nat} (hc : c < mkN (l.take n)) : ∀ m, n + m ≤ l.length → (inn l (n + m) c).size = (inn l n c).size
 | 0, _ => rfl
 | m + 1, hm => by
   obtain ⟨e, he⟩ : ∃ e, l[n + m]? = some e := ⟨_, List.getElem?_eq_getElem (by omega)⟩
   have mono := mkN_mono l (show n ≤ n + m by omega)
   rw [← Nat.add_assoc, size_step h he (by omega), size_const h hc m (by omega)]
def szF (l : List Ev) (c : Int) : Nat := (inn l l.length c).size.toNat
theorem Tok.size {l : List Ev} (h : Tok l) {n : Nat} {e : Ev} (he : l[n]? = some e) (hm : moves e = true) : (inn l n e.c).size = (szF l e.c : Int) ∧ 0 ≤ e.c := by
 have hn := (List.getElem?_eq_some_iff.1 he).1
 have q := (h.at he).md
 have f := (h.at he).fit
 have hk : e.k = 3 ∨ e.k = 4 := by
  unfold moves at hm
  simp at hm
  rcases hm with z | z
  ·exact .inl z
  ·exact .inr z.1
 have c0 : 0 ≤ e.c := f.c (by rcases hk with z | z <;> simp [z])
 unfold made at q
 rw [if_neg (by rcases hk with z | z <;> omega)] at q
 have q' : e.c < (mkN (l.take n) : Int) := by simpa [mkN] using q
 have e1 := size_const h q' (l.length - n) (by omega)
 rw [show n + (l.length - n) = l.length by omega] at e1
 obtain ⟨s, I⟩ := h.ig n (by omega)
 have h0 := (I.m.at_ e.c.toNat (by rw [I.m.len]; unfold mkN at q'; omega)).2
 rw [show ((e.c.toNat : Nat) : Int) = e.c by omega] at h0
 refine ⟨?_, c0⟩
 unfold szF
 rw [e1]
 omega
end Eg
end Go.Proofs.YtblfimobiibmjaaGreat
namespace Go.Proofs.YtblfimobiibmjaaGreat
namespace Eg
open En Gu
structure JC (l : List Ev) (c : Int) (n : Nat) : Prop where
 cnt : n < l.length → (done l c true n).length = (done l c false n).length + (inn l n c).L.length
 bnd : ((inn l n c).L.length : Int) ≤ (inn l n c).size
 f3 : ∀ (k p q : Nat), (done l c true n)[k]? = some p → (done l c false n)[k]? = some q → bg l p < q
 f5 : ∀ (k p q : Nat), (done l c false n)[k]? = some q → (done l c true n)[k + szF l c]? = some p → bg l q < p
theorem get_snoc {α : Type} {l : List α} {x y : α} {k : Nat} (h : (l ++ [x])[k]? = some y) : (k < l.length ∧ l[k]? = some y) ∨ (k = l.length ∧ x = y) := by
 rcases Nat.lt_or_ge k l.length with q | q
 ·rw [List.getElem?_append_left q] at h
  exact .inl ⟨q, h⟩
 ·rw [List.getElem?_append_right q] at h
  rcases Nat.eq_zero_or_pos (k - l.length) with z | z
  ·rw [z] at h
   simp at h
   exact .inr ⟨by omega, h⟩
  ·rw [List.getElem?_eq_none (by simp; omega)] at h
   cases h
theorem get_none {α : Type} {l : List α} {y : α} {k : Nat} (h : l[k]? = some y) (hl : l.length ≤ k) : False := by
 rw [List.getElem?_eq_none hl] at h
 cases h
theorem JC.zero (l : List Ev) (c : Int) : JC l c 0 := by
 refine ⟨fun _ => by simp [done, inn, in0], by simp [inn, in0], fun k p q h => by simp [done] at h, fun k p q h => by simp [done] at h⟩
theorem one_no {l : List Ev} {c : Int} {n : Nat} {e : Ev} (he : l[n]? = some e) (h : e.c ≠ c ∨ moves e = false) (b : Bool) : one l c b n = [] := by
 unfold one
 rw [he]
 simp only
 rw [if_pos h]
theorem one_self {l : List Ev} {n : Nat} {e : Ev} (he : l[n]? = some e) (hm : moves e = true) : one l e.c e.s n = [n] := by
 unfold one
 rw [he]
 simp [hm]
theorem one_mate {l : List Ev} {n : Nat} {e : Ev} (he : l[n]? = some e) (hm : moves e = true) : one l e.c (!e.s) n = if 0 ≤ e.m ∧ n + 1 < l.length then [n + 1] else [] := by
 unfold one
 rw [he]
 simp only
 rw [if_neg (by simp [hm]), if_neg (by cases e.s <;> simp)]
theorem JC.step {l : List Ev} (h : Tok l) {c : Int} {n : Nat} (hn : n < l.length) (J : JC l c n) : JC l c (n + 1) := by
 obtain ⟨e, he⟩ : ∃ e, l[n]? = some e := ⟨_, List.getElem?_eq_getElem hn⟩
 have R := h.at he
 have cn := J.cnt hn
 by_cases hno : e.c ≠ c ∨ moves e = false
 ·have d : ∀ b, done l c b (n + 1) = done l c b n := fun b => by rw [done_succ, one_no he hno b, List.append_nil]
  have hL : (inn l (n + 1) c).L = (inn l n c).L := by
   rw [inn_succ he]
   unfold ins
   split
   ·rfl
   ·rename_i h1
    have : moves e = false := by
     rcases hno with q | q
     ·exact absurd q h1
     ·exact q
    rw [this]
    rfl
  refine ⟨fun _ => by rw [d, d, hL]; exact cn, ?_, by rw [d, d]; exact J.f3, by rw [d, d]; exact J.f5⟩
  rw [hL]
  by_cases q : c < (mkN (l.take n) : Int)
  ·rw [size_step h he q]
   exact J.bnd
  ·obtain ⟨s, I⟩ := h.ig n (by omega)
   obtain ⟨s', I'⟩ := h.ig (n + 1) (by omega)
   have len : s.ch.length = mkN (l.take n) := I.m.len
   have L0 : (inn l n c).L = [] := by
    have := I.m.few c.toNat (by omega)
    rw [show ((c.toNat : Nat) : Int) = c by omega] at this
    rw [this]
    rfl
   rw [L0]
   show (0 : Int) ≤ _
   by_cases z : c < (mkN (l.take (n + 1)) : Int)
   ·have := (I'.m.at_ c.toNat (by have e1 : s'.ch.length = mkN (l.take (n + 1)) := I'.m.len; omega)).2
    rw [show ((c.toNat : Nat) : Int) = c by omega] at this
    exact this
   ·have := I'.m.few c.toNat (by have e1 : s'.ch.length = mkN (l.take (n + 1)) := I'.m.len; omega)
    rw [show ((c.toNat : Nat) : Int) = c by omega] at this
    rw [this]
    exact Int.le_refl _
 ·have hc : e.c = c := by
   rcases Classical.em (e.c = c) with q | q
   ·exact q
   ·exact absurd (.inl q) hno
  have hm : moves e = true := by
   cases q : moves e
   ·exact absurd (.inr q) hno
   ·rfl
  subst hc
  obtain ⟨hz, c0⟩ := h.size he hm
  have nw : ¬ (∃ x, l[n]? = some x ∧ x.k = 7) := by
   rintro ⟨x, hx, k7⟩
   rw [he] at hx
   cases hx
   simp [moves, k7] at hm
  have lt : ∀ (b : Bool) (k p : Nat), (done l e.c b n)[k]? = some p → bg l p < n := fun b k p hp => by
   obtain ⟨-, q⟩ := done_lt h n p (List.mem_of_getElem? hp)
   have := bg_le (l := l) p
   rcases q with q | ⟨-, q⟩
   ·omega
   ·exact absurd q nw
  have bn := J.bnd
  rw [hz] at bn
  have I' : inn l (n + 1) e.c = mov (inn l n e.c) e l[n + 1]? := by
   rw [inn_succ he]
   unfold ins
   rw [if_neg (fun q => q rfl), if_pos hm]
  have od : (mov (inn l n e.c) e l[n + 1]?).right = true := by
   have := R.od
   unfold ordered at this
   rw [if_pos hm] at this
   exact this
  have o1 := one_self he hm
  have o2 := one_mate he hm
  have sz1 : (inn l (n + 1) e.c).size = (szF l e.c : Int) := by rw [I', mov_size]; exact hz
  have hk : e.k = 3 ∨ (e.k = 4 ∧ e.o = true) := by
   have := hm
   unfold moves at this
   simpa using this
  generalize hS : inn l n e.c = S at *
  obtain ⟨z, L, cl, rt⟩ := S
  simp only at hz bn cn
  subst hz
  have bgn := bg_le (l := l) n
  have bg1 := bg_le (l := l) (n + 1)
  rcases hk with k3 | ⟨k4, hok⟩
  ·have es := R.fit.s3 k3
   rw [es] at o1 o2
   simp only [Bool.not_true] at o2
   have dI : done l e.c true (n + 1) = done l e.c true n ++ [n] := by rw [done_succ, o1]
   by_cases h0 : 0 ≤ e.m
   ·
    obtain ⟨v, r, hvr⟩ : ∃ v r, L ++ [e.v] = v :: r := by cases L <;> simp
    have hr : r.length = L.length := by have := congrArg List.length hvr; simp at this; omega
    have hmv : mov ⟨(szF l e.c : Int), L, cl, rt⟩ e l[n + 1]? = ⟨(szF l e.c : Int), r, cl, decide (v = e.v) && decide ((r.length : Int) ≤ (szF l e.c : Int))⟩ := by
     unfold mov
     rw [if_pos (.inr h0)]
     simp [put, k3, hvr]
    rw [hmv] at od I'
    simp at od
    by_cases hl1 : n + 1 < l.length
    ·have bs := bg_served h he hm h0 hl1
     rw [if_pos ⟨h0, hl1⟩] at o2
     have dO : done l e.c false (n + 1) = done l e.c false n ++ [n + 1] := by rw [done_succ, o2]
     refine ⟨fun _ => by rw [dI, dO, I']; simp; omega, by rw [sz1, I']; simp only; omega, fun k p q hp hq => ?_, fun k p q hq hp => ?_⟩
     ·rw [dI] at hp
      rw [dO] at hq
      rcases get_snoc hp with ⟨p1, p2⟩ | ⟨p1, rfl⟩
      ·rcases get_snoc hq with ⟨q1, q2⟩ | ⟨q1, rfl⟩
       ·exact J.f3 k p q p2 q2
       ·have := lt _ _ _ p2
        omega
      ·rcases get_snoc hq with ⟨q1, q2⟩ | ⟨q1, rfl⟩
       ·omega
       ·omega
     ·rw [dI] at hp
      rw [dO] at hq
      rcases get_snoc hq with ⟨q1, q2⟩ | ⟨q1, rfl⟩
      ·rcases get_snoc hp with ⟨p1, p2⟩ | ⟨p1, rfl⟩
       ·exact J.f5 k p q q2 p2
       ·exact lt _ _ _ q2
      ·rcases get_snoc hp with ⟨p1, p2⟩ | ⟨p1, rfl⟩
       ·omega
       ·exact bs
    ·rw [if_neg (fun q => hl1 q.2)] at o2
     have dO : done l e.c false (n + 1) = done l e.c false n := by rw [done_succ, o2, List.append_nil]
     refine ⟨fun q => absurd q hl1, by rw [sz1, I']; simp only; omega, fun k p q hp hq => ?_, fun k p q hq hp => ?_⟩
     ·rw [dI] at hp
      rw [dO] at hq
      rcases get_snoc hp with ⟨p1, p2⟩ | ⟨p1, rfl⟩
      ·exact J.f3 k p q p2 hq
      ·exact (get_none hq (by omega)).elim
     ·rw [dI] at hp
      rw [dO] at hq
      rcases get_snoc hp with ⟨p1, p2⟩ | ⟨p1, rfl⟩
      ·exact J.f5 k p q hq p2
      ·exact lt _ _ _ hq
   ·
    rw [if_neg (fun q => h0 q.1)] at o2
    have dO : done l e.c false (n + 1) = done l e.c false n := by rw [done_succ, o2, List.append_nil]
    have hmv : mov ⟨(szF l e.c : Int), L, cl, rt⟩ e l[n + 1]? = ⟨(szF l e.c : Int), L ++ [e.v], cl, decide (((L ++ [e.v]).length : Int) ≤ (szF l e.c : Int))⟩ := by
     unfold mov
     rw [if_neg (by rintro (q | q); omega; exact h0 q)]
     simp [put, k3]
    rw [hmv] at od I'
    simp at od
    refine ⟨fun _ => by rw [dI, dO, I']; simp; omega, by rw [sz1, I']; simp; omega, fun k p q hp hq => ?_, fun k p q hq hp => ?_⟩
    ·rw [dI] at hp
     rw [dO] at hq
     rcases get_snoc hp with ⟨p1, p2⟩ | ⟨p1, rfl⟩
     ·exact J.f3 k p q p2 hq
     ·exact (get_none hq (by omega)).elim
    ·rw [dI] at hp
     rw [dO] at hq
     rcases get_snoc hp with ⟨p1, p2⟩ | ⟨p1, rfl⟩
     ·exact J.f5 k p q hq p2
     ·exact lt _ _ _ hq
  ·have es := R.fit.s4 k4
   rw [es] at o1 o2
   simp only [Bool.not_false] at o2
   have dO : done l e.c false (n + 1) = done l e.c false n ++ [n] := by rw [done_succ, o1]
   by_cases h0 : 0 ≤ e.m
   ·by_cases hl1 : n + 1 < l.length
    ·have bs := bg_served h he hm h0 hl1
     rw [if_pos ⟨h0, hl1⟩] at o2
     have dI : done l e.c true (n + 1) = done l e.c true n ++ [n + 1] := by rw [done_succ, o2]
     obtain ⟨x, hx⟩ : ∃ x, l[n + 1]? = some x := ⟨_, List.getElem?_eq_getElem hl1⟩
     obtain ⟨v, r, hvr⟩ : ∃ v r, L ++ [x.v] = v :: r := by cases L <;> simp
     have hr : r.length = L.length := by have := congrArg List.length hvr; simp at this; omega
     have hmv : mov ⟨(szF l e.c : Int), L, cl, rt⟩ e l[n + 1]? = ⟨(szF l e.c : Int), r, cl, decide (v = e.v) && decide ((r.length : Int) ≤ (szF l e.c : Int))⟩ := by
      unfold mov
      rw [if_pos (.inr h0)]
      simp [put, k4, h0, hx, hvr]
     rw [hmv] at od I'
     simp at od
     refine ⟨fun _ => by rw [dI, dO, I']; simp; omega, by rw [sz1, I']; simp only; omega, fun k p q hp hq => ?_, fun k p q hq hp => ?_⟩
     ·rw [dI] at hp
      rw [dO] at hq
      rcases get_snoc hq with ⟨q1, q2⟩ | ⟨q1, rfl⟩
      ·rcases get_snoc hp with ⟨p1, p2⟩ | ⟨p1, rfl⟩
       ·exact J.f3 k p q p2 q2
       ·omega
      ·rcases get_snoc hp with ⟨p1, p2⟩ | ⟨p1, rfl⟩
       ·exact lt _ _ _ p2
       ·exact bs
     ·rw [dI] at hp
      rw [dO] at hq
      rcases get_snoc hq with ⟨q1, q2⟩ | ⟨q1, rfl⟩
      ·rcases get_snoc hp with ⟨p1, p2⟩ | ⟨p1, rfl⟩
       ·exact J.f5 k p q q2 p2
       ·have := lt _ _ _ q2
        omega
      ·rcases get_snoc hp with ⟨p1, p2⟩ | ⟨p1, rfl⟩
       ·omega
       ·omega
    ·rw [if_neg (fun q => hl1 q.2)] at o2
     have dI : done l e.c true (n + 1) = done l e.c true n := by rw [done_succ, o2, List.append_nil]
     have hx : l[n + 1]? = none := List.getElem?_eq_none (by omega)
     have hb : ((inn l (n + 1) e.c).L.length : Int) ≤ (szF l e.c : Int) := by
      rw [I']
      unfold mov
      rw [if_pos (.inr h0)]
      simp only [put, k4, hx]
      cases L with
      | nil => simp
      | cons v r => simp at bn ⊢; omega
     refine ⟨fun q => absurd q hl1, by rw [sz1]; exact hb, fun k p q hp hq => ?_, fun k p q hq hp => ?_⟩
     ·rw [dI] at hp
      rw [dO] at hq
      rcases get_snoc hq with ⟨q1, q2⟩ | ⟨q1, rfl⟩
      ·exact J.f3 k p q hp q2
      ·exact lt _ _ _ hp
     ·rw [dI] at hp
      rw [dO] at hq
      rcases get_snoc hq with ⟨q1, q2⟩ | ⟨q1, rfl⟩
      ·exact J.f5 k p q q2 hp
      ·exact (get_none hp (by omega)).elim
   ·rw [if_neg (fun q => h0 q.1)] at o2
    have dI : done l e.c true (n + 1) = done l e.c true n := by rw [done_succ, o2, List.append_nil]
    have hmv : ∃ v r, L = v :: r ∧ mov ⟨(szF l e.c : Int), L, cl, rt⟩ e l[n + 1]? = ⟨(szF l e.c : Int), r, cl, decide (v = e.v) && decide ((r.length : Int) ≤ (szF l e.c : Int))⟩ := by
     cases L with
     | nil =>
       exfalso
       unfold mov at od
       rw [if_pos (.inl k4)] at od
       simp [put, k4, h0] at od
     | cons v r =>
       refine ⟨v, r, rfl, ?_⟩
       unfold mov
       rw [if_pos (.inl k4)]
       simp [put, k4, h0]
    obtain ⟨v, r, rfl, hmv⟩ := hmv
    rw [hmv] at I'
    simp at bn cn
    refine ⟨fun _ => by rw [dI, dO, I']; simp; omega, by rw [sz1, I']; simp only; omega, fun k p q hp hq => ?_, fun k p q hq hp => ?_⟩
    ·rw [dI] at hp
     rw [dO] at hq
     rcases get_snoc hq with ⟨q1, q2⟩ | ⟨q1, rfl⟩
     ·exact J.f3 k p q hp q2
     ·exact lt _ _ _ hp
    ·rw [dI] at hp
     rw [dO] at hq
     rcases get_snoc hq with ⟨q1, q2⟩ | ⟨q1, rfl⟩
     ·exact J.f5 k p q q2 hp
     ·exact (get_none hp (by omega)).elim
theorem Tok.jc {l : List Ev} (h : Tok l) (c : Int) : ∀ n, n ≤ l.length → JC l c n
 | 0, _ => JC.zero l c
 | n + 1, hn => JC.step h (by omega) (h.jc c n (by omega))
end Eg
end Go.Proofs.YtblfimobiibmjaaGreat
namespace Go.Proofs.YtblfimobiibmjaaGreat
namespace Eg
open En Gu
def clD (l : List Ev) (c : Int) (j : Nat) : Prop := ∃ e, l[j]? = some e ∧ e.k = 5 ∧ e.c = c
def clF (l : List Ev) (c : Int) : Nat → Nat
 | 0 => 0
 | n + 1 => match l[n]? with
   | some e => if e.k = 5 ∧ e.c = c then n else clF l c n
   | none => clF l c n
theorem mov_closed (s : In) (e : Ev) (nx : Option Ev) : (mov s e nx).closed = s.closed := by
 unfold mov
 split
 ·split <;> rfl
 ·rfl
theorem closed_is {l : List Ev} {c : Int} : ∀ {n : Nat}, n ≤ l.length → ((inn l n c).closed = true ↔ ∃ j, j < n ∧ clD l c j)
 | 0, _ => by
   constructor
   ·intro h
    cases h
   ·rintro ⟨j, hj, -⟩
    omega
 | n + 1, hn => by
   obtain ⟨e, he⟩ : ∃ e, l[n]? = some e := ⟨_, List.getElem?_eq_getElem (by omega)⟩
   have ih := closed_is (l := l) (c := c) (n := n) (by omega)
   have st : (inn l (n + 1) c).closed = ((inn l n c).closed || (decide (e.k = 5) && decide (e.c = c))) := by
    rw [inn_succ he]
    unfold ins
    split
    ·rename_i h1
     have : decide (e.c = c) = false := decide_eq_false h1
     simp [this]
    ·rename_i h1
     have hc : e.c = c := by
      rcases Classical.em (e.c = c) with q | q
      ·exact q
      ·exact absurd q h1
     split
     ·rename_i hm
      rw [mov_closed]
      have : e.k ≠ 5 := by
       intro h5
       simp [moves, h5] at hm
      simp [this]
     ·show (if e.k = 5 then true else (inn l n c).closed) = _
      by_cases h5 : e.k = 5 <;> simp [h5, hc]
   rw [st, Bool.or_eq_true, ih]
   constructor
   ·rintro (⟨j, h1, h2⟩ | q)
    ·exact ⟨j, by omega, h2⟩
    ·simp at q
     exact ⟨n, by omega, e, he, q.1, q.2⟩
   ·rintro ⟨j, h1, h2⟩
    rcases Nat.lt_or_ge j n with q | q
    ·exact .inl ⟨j, q, h2⟩
    ·have : j = n := by omega
     subst this
     obtain ⟨x, x1, x2, x3⟩ := h2
     rw [he] at x1
     cases x1
     exact .inr (by simp [x2, x3])
theorem Tok.once {l : List Ev} (h : Tok l) {c : Int} {i j : Nat} (hi : clD l c i) (hj : clD l c j) : i = j := by
 have key : ∀ {a b : Nat}, a < b → clD l c a → clD l c b → False := by
  intro a b hab ha ⟨e, e1, e2, e3⟩
  have q := (h.at e1).cl
  have hb := (List.getElem?_eq_some_iff.1 e1).1
  have := (closed_is (l := l) (c := c) (n := b) (by omega)).2 ⟨a, hab, ha⟩
  unfold closedF at q
  rw [e3] at q
  simp [e2, this] at q
 rcases Nat.lt_trichotomy i j with q | q | q
 ·exact (key q hi hj).elim
 ·exact q
 ·exact (key q hj hi).elim
theorem cl_at {l : List Ev} (h : Tok l) {c : Int} : ∀ {n j : Nat}, n ≤ l.length → j < n → clD l c j → clF l c n = j
 | 0, j, _, hj, _ => by omega
 | n + 1, j, hn, hj, hc => by
   obtain ⟨e, he⟩ : ∃ e, l[n]? = some e := ⟨_, List.getElem?_eq_getElem (by omega)⟩
   unfold clF
   rw [he]
   simp only
   by_cases h1 : e.k = 5 ∧ e.c = c
   ·rw [if_pos h1]
    exact h.once ⟨e, he, h1⟩ hc
   ·rw [if_neg h1]
    rcases Nat.lt_or_ge j n with q | q
    ·exact cl_at h (by omega) q hc
    ·exfalso
     have : j = n := by omega
     subst this
     obtain ⟨x, x1, x2, x3⟩ := hc
     rw [he] at x1
     cases x1
     exact h1 ⟨x2, x3⟩
theorem back_at {l : List Ev} {e : Ev} : ∀ {n : Nat}, n ≤ l.length → back e (l.take n).reverse = true → ∃ j, j < n ∧ clD l e.c j
 | 0, _, h => by simp [back] at h
 | n + 1, hn, h => by
   obtain ⟨x, hx⟩ : ∃ x, l[n]? = some x := ⟨_, List.getElem?_eq_getElem (by omega)⟩
   rw [take_succ hx, List.reverse_append] at h
   have h' : (if x.k = 5 then decide (x.g = e.m) && decide (x.c = e.c) else if x.k ≠ 7 then false else if ((l.take n).reverse.head?.any serves) then false else back e (l.take n).reverse) = true := h
   by_cases h5 : x.k = 5
   ·rw [if_pos h5] at h'
    simp at h'
    exact ⟨n, by omega, x, hx, h5, h'.2⟩
   ·rw [if_neg h5] at h'
    split at h'
    ·cases h'
    ·split at h'
     ·cases h'
     ·obtain ⟨j, a, b⟩ := back_at (by omega) h'
      exact ⟨j, by omega, b⟩
def nok (e : Ev) : Prop := (e.k = 4 ∨ e.k = 7) ∧ e.o = false
theorem Tok.shut {l : List Ev} (h : Tok l) {i : Nat} {e : Ev} (he : l[i]? = some e) (hn : nok e) : ∃ j, j < i ∧ clD l e.c j := by
 have hi := (List.getElem?_eq_some_iff.1 he).1
 obtain ⟨hk, ho⟩ := hn
 rcases hk with k4 | k7
 ·have q := (h.at he).cl
  unfold closedF at q
  rw [if_neg (by omega), if_pos ⟨k4, ho⟩] at q
  simp at q
  exact (closed_is (by omega)).1 q.1
 ·have q := (h.at he).sv
  cases i with
  | zero => simp [Gu.served, wakeF, k7, ho, back] at q
  | succ n =>
    obtain ⟨x, hx⟩ : ∃ x, l[n]? = some x := ⟨_, List.getElem?_eq_getElem (by omega)⟩
    have q' := q
    rw [take_succ hx, List.reverse_append] at q'
    have q2 : (if serves x then servF x e else wakeF (x :: (l.take n).reverse) e) = true := q'
    split at q2
    ·simp [servF, ho] at q2
    ·have q3 : back e (l.take (n + 1)).reverse = true := by
      rw [take_succ hx, List.reverse_append]
      unfold wakeF at q2
      rw [if_neg (by simp [k7])] at q2
      split at q2
      ·cases q2
      ·exact q2
     exact back_at (by omega) q3
theorem clD_nat {l : List Ev} (h : Tok l) {c : Int} {j : Nat} (hj : clD l c j) : 0 ≤ c := by
 obtain ⟨e, e1, e2, e3⟩ := hj
 rw [← e3]
 exact (h.at e1).fit.c (by simp [e2])
def out4 (l : List Ev) (i : Nat) : List Ed := match l[i]? with
 | none => []
 | some e => if e.c ≠ -1 ∧ (e.k = 4 ∨ e.k = 7) ∧ e.o = false then [⟨clF l e.c i, i, 4⟩] else []
def clE (l : List Ev) (n : Nat) : List Ed := (List.range n).flatMap (out4 l)
def is4 (l : List Ev) (f t : Nat) : Prop := f < t ∧ ∃ b, l[t]? = some b ∧ nok b ∧ clD l b.c f
theorem cl_mem {l : List Ev} (h : Tok l) (x : Ed) : x ∈ clE l l.length ↔ x.r = 4 ∧ is4 l x.f x.t := by
 unfold clE
 rw [List.mem_flatMap]
 constructor
 ·rintro ⟨i, hi, hx⟩
  rw [List.mem_range] at hi
  obtain ⟨e, he⟩ : ∃ e, l[i]? = some e := ⟨_, List.getElem?_eq_getElem hi⟩
  unfold out4 at hx
  rw [he] at hx
  simp only at hx
  split at hx
  ·rename_i h1
   simp at hx
   subst hx
   obtain ⟨j, hj, hc⟩ := h.shut he h1.2
   have := cl_at h (Nat.le_of_lt hi) hj hc
   refine ⟨rfl, ?_, e, he, h1.2, ?_⟩
   ·show clF l e.c i < i
    omega
   ·show clD l e.c (clF l e.c i)
    rw [this]
    exact hc
  ·simp at hx
 ·rintro ⟨hr, hlt, b, hb, hn, hc⟩
  have ht := (List.getElem?_eq_some_iff.1 hb).1
  refine ⟨x.t, List.mem_range.2 ht, ?_⟩
  unfold out4
  rw [hb]
  simp only
  have c0 := clD_nat h hc
  rw [if_pos ⟨by omega, hn⟩, cl_at h (Nat.le_of_lt ht) hlt hc]
  simp
  cases x
  simp_all
def outC (l : List Ev) (c : Int) (k : Nat) : List Ed := match (done l c false l.length)[k]? with
 | none => []
 | some q => (match (done l c true l.length)[k]? with
    | none => []
    | some p => [⟨bg l p, q, 3⟩]) ++ (match (done l c true l.length)[k + szF l c]? with
    | none => []
    | some p => [⟨bg l q, p, if szF l c = 0 then 5 else 6⟩])
def chE (l : List Ev) (c : Int) : List Ed := (List.range (done l c false l.length).length).flatMap (outC l c)
def isC (l : List Ev) (c : Int) (x : Ed) : Prop := ∃ k q, (done l c false l.length)[k]? = some q ∧ ((x.r = 3 ∧ ∃ p, (done l c true l.length)[k]? = some p ∧ x = ⟨bg l p, q, 3⟩) ∨ ∃ p, (done l c true l.length)[k + szF l c]? = some p ∧ x = ⟨bg l q, p, if szF l c = 0 then 5 else 6⟩)
theorem ch_mem (l : List Ev) (c : Int) (x : Ed) : x ∈ chE l c ↔ isC l c x := by
 unfold chE
 rw [List.mem_flatMap]
 constructor
 ·rintro ⟨k, hk, hx⟩
  unfold outC at hx
  cases hq : (done l c false l.length)[k]? with
  | none => rw [hq] at hx; simp at hx
  | some q =>
    rw [hq] at hx
    simp only [List.mem_append] at hx
    refine ⟨k, q, hq, ?_⟩
    rcases hx with z | z
    ·left
     cases hp : (done l c true l.length)[k]? with
     | none => rw [hp] at z; simp at z
     | some p =>
       rw [hp] at z
       simp at z
       exact ⟨by rw [z], p, rfl, z⟩
    ·right
     cases hp : (done l c true l.length)[k + szF l c]? with
     | none => rw [hp] at z; simp at z
     | some p =>
       rw [hp] at z
       simp only [List.mem_singleton] at z
       exact ⟨p, rfl, z⟩
 ·rintro ⟨k, q, hq, z⟩
  refine ⟨k, List.mem_range.2 (List.getElem?_eq_some_iff.1 hq).1, ?_⟩
  unfold outC
  rw [hq]
  simp only [List.mem_append]
  rcases z with ⟨-, p, hp, rfl⟩ | ⟨p, hp, rfl⟩
  ·left
   rw [hp]
   simp
  ·right
   rw [hp]
   simp
theorem isC_fwd {l : List Ev} (h : Tok l) {c : Int} {x : Ed} (hx : isC l c x) : x.f < x.t ∧ ∃ b, l[x.t]? = some b ∧ b.c = c := by
 have J := h.jc c l.length (Nat.le_refl _)
 obtain ⟨k, q, hq, ⟨-, p, hp, rfl⟩ | ⟨p, hp, rfl⟩⟩ := hx
 ·exact ⟨J.f3 k p q hp hq, (done_lt h _ _ (List.mem_of_getElem? hq)).1⟩
 ·exact ⟨J.f5 k p q hq hp, (done_lt h _ _ (List.mem_of_getElem? hp)).1⟩
end Eg
end Go.Proofs.YtblfimobiibmjaaGreat
namespace Go.Proofs.YtblfimobiibmjaaGreat
namespace Eg
open En Gu
def allE (l : List Ev) : List Ed := progE l l.length ++ (clE l l.length ++ (List.range (mkN l)).flatMap fun (c : Nat) => chE l (c : Int))
def isD (l : List Ev) (x : Ed) : Prop := (x.r = 1 ∧ is1 l x.f x.t) ∨ (x.r = 2 ∧ is2 l x.f x.t) ∨ (x.r = 4 ∧ is4 l x.f x.t) ∨ ∃ b, l[x.t]? = some b ∧ 0 ≤ b.c ∧ isC l b.c x
theorem isC_r {l : List Ev} {c : Int} {x : Ed} (h : isC l c x) : x.r = 3 ∨ x.r = 5 ∨ x.r = 6 := by
 obtain ⟨k, q, hq, ⟨hr, -⟩ | ⟨p, hp, rfl⟩⟩ := h
 ·exact .inl hr
 ·show (if szF l c = 0 then 5 else 6) = 3 ∨ (if szF l c = 0 then 5 else 6) = 5 ∨ (if szF l c = 0 then 5 else 6) = 6
  split <;> omega
theorem done_made {l : List Ev} (h : Tok l) {c : Int} {b : Bool} {n j : Nat} (hj : j ∈ done l c b n) : 0 ≤ c ∧ c < (mkN l : Int) := by
 unfold done at hj
 rw [List.mem_flatMap] at hj
 obtain ⟨i, -, hi⟩ := hj
 unfold one at hi
 cases he : l[i]? with
 | none => rw [he] at hi; simp at hi
 | some e =>
   rw [he] at hi
   simp only at hi
   split at hi
   ·simp at hi
   ·rename_i h1
    have hc : e.c = c := by
     rcases Classical.em (e.c = c) with q | q
     ·exact q
     ·exact absurd (.inl q) h1
    have hm : moves e = true := by
     cases q : moves e
     ·exact absurd (.inr q) h1
     ·rfl
    have c0 := (h.size he hm).2
    have q := (h.at he).md
    have hk : e.k ≠ 2 := by
     intro h2
     simp [moves, h2] at hm
    unfold made at q
    rw [if_neg hk] at q
    have q' : e.c < (mkN (l.take i) : Int) := by simpa [mkN] using q
    have mono := mkN_mono l (show i ≤ l.length from Nat.le_of_lt (List.getElem?_eq_some_iff.1 he).1)
    rw [List.take_length] at mono
    omega
theorem all_mem {l : List Ev} (h : Tok l) (x : Ed) : x ∈ allE l ↔ isD l x := by
 unfold allE isD
 rw [List.mem_append, List.mem_append, prog_mem h.cw, cl_mem h, List.mem_flatMap]
 constructor
 ·rintro ((z | z) | z | ⟨c, -, z⟩)
  ·exact .inl z
  ·exact .inr (.inl z)
  ·exact .inr (.inr (.inl z))
  ·rw [ch_mem] at z
   obtain ⟨-, b, hb, hc⟩ := isC_fwd h z
   exact .inr (.inr (.inr ⟨b, hb, by omega, by rw [hc]; exact z⟩))
 ·rintro (z | z | z | ⟨b, hb, h0, z⟩)
  ·exact .inl (.inl z)
  ·exact .inl (.inr z)
  ·exact .inr (.inl z)
  ·have hm : b.c < (mkN l : Int) := by
    obtain ⟨k, q, hq, -⟩ := z
    exact (done_made h (List.mem_of_getElem? hq)).2
   refine .inr (.inr ⟨b.c.toNat, List.mem_range.2 (by omega), ?_⟩)
   rw [show ((b.c.toNat : Nat) : Int) = b.c by omega, ch_mem]
   exact z
theorem isD_fwd {l : List Ev} (h : Tok l) {x : Ed} (hx : isD l x) : x.f < x.t ∧ x.t < l.length := by
 rcases hx with ⟨-, b, hb, -, q⟩ | ⟨-, b, hb, -, q⟩ | ⟨-, q, b, hb, -⟩ | ⟨b, hb, -, q⟩
 ·exact ⟨q.1, (List.getElem?_eq_some_iff.1 hb).1⟩
 ·exact ⟨q.1, (List.getElem?_eq_some_iff.1 hb).1⟩
 ·exact ⟨q, (List.getElem?_eq_some_iff.1 hb).1⟩
 ·exact ⟨(isC_fwd h q).1, (List.getElem?_eq_some_iff.1 hb).1⟩
theorem range_rises (n : Nat) : (List.range n).Pairwise (· < ·) := List.pairwise_lt_range
theorem nd_prog (l : List Ev) (n : Nat) : (progE l n).Pairwise (· ≠ ·) := by
 have ht : ∀ i x, x ∈ outP l i → x.t = i := by
  intro i x hx
  unfold outP at hx
  split at hx
  ·simp at hx
  ·split at hx
   ·simp at hx
   ·split at hx
    ·simp at hx
    ·simp at hx
     rw [hx]
 unfold progE
 rw [List.pairwise_flatMap]
 refine ⟨fun i _ => ?_, (range_rises n).imp fun {a b} hab x hx y hy e => ?_⟩
 ·unfold outP
  split
  ·exact List.Pairwise.nil
  ·split
   ·exact List.Pairwise.nil
   ·split
    ·exact List.Pairwise.nil
    ·exact List.pairwise_singleton _ _
 ·have h1 := ht a x hx
  have h2 := ht b y hy
  rw [e] at h1
  omega
theorem nd_cl (l : List Ev) (n : Nat) : (clE l n).Pairwise (· ≠ ·) := by
 have ht : ∀ i x, x ∈ out4 l i → x.t = i := by
  intro i x hx
  unfold out4 at hx
  split at hx
  ·simp at hx
  ·split at hx
   ·simp at hx
    rw [hx]
   ·simp at hx
 unfold clE
 rw [List.pairwise_flatMap]
 refine ⟨fun i _ => ?_, (range_rises n).imp fun {a b} hab x hx y hy e => ?_⟩
 ·unfold out4
  split
  ·exact List.Pairwise.nil
  ·split
   ·exact List.pairwise_singleton _ _
   ·exact List.Pairwise.nil
 ·have h1 := ht a x hx
  have h2 := ht b y hy
  rw [e] at h1
  omega
theorem outC_is {l : List Ev} {c : Int} {k : Nat} {x : Ed} (hx : x ∈ outC l c k) : (x.r = 3 ∧ (done l c false l.length)[k]? = some x.t) ∨ (x.r ≠ 3 ∧ (done l c true l.length)[k + szF l c]? = some x.t) := by
 unfold outC at hx
 cases hq : (done l c false l.length)[k]? with
 | none => rw [hq] at hx; simp at hx
 | some q =>
   rw [hq] at hx
   simp only [List.mem_append] at hx
   rcases hx with z | z
   ·cases hp : (done l c true l.length)[k]? with
    | none => rw [hp] at z; simp at z
    | some p =>
      rw [hp] at z
      simp at z
      rw [z]
      exact .inl ⟨rfl, rfl⟩
   ·cases hp : (done l c true l.length)[k + szF l c]? with
    | none => rw [hp] at z; simp at z
    | some p =>
      rw [hp] at z
      simp only [List.mem_singleton] at z
      rw [z]
      exact .inr ⟨by show (if szF l c = 0 then 5 else 6) ≠ 3; split <;> omega, rfl⟩
theorem rises_ne {l : List Nat} (h : l.Pairwise (· < ·)) {i j p : Nat} (hij : i < j) (hi : l[i]? = some p) (hj : l[j]? = some p) : False := by
 obtain ⟨a1, a2⟩ := List.getElem?_eq_some_iff.1 hi
 obtain ⟨b1, b2⟩ := List.getElem?_eq_some_iff.1 hj
 have := List.pairwise_iff_getElem.1 h i j a1 b1 hij
 omega
theorem nd_ch {l : List Ev} (h : Tok l) (c : Int) : (chE l c).Pairwise (· ≠ ·) := by
 unfold chE
 rw [List.pairwise_flatMap]
 refine ⟨fun k _ => ?_, (range_rises _).imp fun {a b} hab x hx y hy e => ?_⟩
 ·unfold outC
  split
  ·exact List.Pairwise.nil
  ·rw [List.pairwise_append]
   refine ⟨?_, ?_, fun x hx y hy e => ?_⟩
   ·split
    ·exact List.Pairwise.nil
    ·exact List.pairwise_singleton _ _
   ·split
    ·exact List.Pairwise.nil
    ·exact List.pairwise_singleton _ _
   ·have h1 : x.r = 3 := by
     split at hx
     ·simp at hx
     ·simp at hx
      rw [hx]
    have h2 : y.r ≠ 3 := by
     split at hy
     ·simp at hy
     ·simp only [List.mem_singleton] at hy
      rw [hy]
      show (if szF l c = 0 then 5 else 6) ≠ 3
      split <;> omega
    rw [e] at h1
    exact h2 h1
 ·subst e
  rcases outC_is hx with ⟨r1, t1⟩ | ⟨r1, t1⟩
  ·rcases outC_is hy with ⟨r2, t2⟩ | ⟨r2, t2⟩
   ·exact rises_ne (done_rises h _) hab t1 t2
   ·exact r2 r1
  ·rcases outC_is hy with ⟨r2, t2⟩ | ⟨r2, t2⟩
   ·exact r1 r2
   ·exact rises_ne (done_rises h _) (show a + szF l c < b + szF l c by omega) t1 t2
theorem nd_all {l : List Ev} (h : Tok l) : (allE l).Pairwise (· ≠ ·) := by
 unfold allE
 rw [List.pairwise_append, List.pairwise_append]
 refine ⟨nd_prog l _, ⟨nd_cl l _, ?_, ?_⟩, ?_⟩
 ·rw [List.pairwise_flatMap]
  refine ⟨fun c _ => nd_ch h _, (range_rises _).imp fun {a b} hab x hx y hy e => ?_⟩
  subst e
  rw [ch_mem] at hx hy
  obtain ⟨-, u, u1, u2⟩ := isC_fwd h hx
  obtain ⟨-, v, v1, v2⟩ := isC_fwd h hy
  rw [u1] at v1
  cases v1
  omega
 ·intro x hx y hy e
  subst e
  rw [List.mem_flatMap] at hy
  obtain ⟨c, -, hy⟩ := hy
  rw [ch_mem] at hy
  have h1 := ((cl_mem h x).1 hx).1
  have h2 := isC_r hy
  omega
 ·intro x hx y hy e
  subst e
  have h1 : x.r = 1 ∨ x.r = 2 := by
   rcases (prog_mem h.cw x).1 hx with q | q
   ·exact .inl q.1
   ·exact .inr q.1
  rw [List.mem_append, List.mem_flatMap] at hy
  rcases hy with q | ⟨c, -, q⟩
  ·have := ((cl_mem h x).1 q).1
   omega
  ·rw [ch_mem] at q
   have := isC_r q
   omega
end Eg
end Go.Proofs.YtblfimobiibmjaaGreat
namespace Go.Proofs.YtblfimobiibmjaaGreat
namespace Eg
open En Gu
def ltE (x y : Ed) : Prop := x.t < y.t ∨ (x.t = y.t ∧ (x.f < y.f ∨ (x.f = y.f ∧ x.r < y.r)))
theorem ltE_irrefl (x : Ed) : ¬ ltE x x := by unfold ltE; omega
theorem ltE_trans {x y z : Ed} (h : ltE x y) (k : ltE y z) : ltE x z := by unfold ltE at *; omega
theorem ltE_asymm {x y : Ed} (h : ltE x y) (k : ltE y x) : False := ltE_irrefl x (ltE_trans h k)
theorem ltE_total (x y : Ed) : ltE x y ∨ x = y ∨ ltE y x := by
 obtain ⟨a, b, c⟩ := x
 obtain ⟨d, e, f⟩ := y
 unfold ltE
 simp only [Ed.mk.injEq]
 omega
theorem uniq : ∀ (a b : List Ed), a.Pairwise ltE → b.Pairwise ltE → (∀ x, x ∈ a ↔ x ∈ b) → a = b
 | [], [], _, _, _ => rfl
 | [], y :: b, _, _, h => by have := (h y).2 (by simp); simp at this
 | x :: a, [], _, _, h => by have := (h x).1 (by simp); simp at this
 | x :: a, y :: b, ha, hb, h => by
   rw [List.pairwise_cons] at ha hb
   have e : x = y := by
    have h1 := (h x).1 (by simp)
    have h2 := (h y).2 (by simp)
    rw [List.mem_cons] at h1 h2
    rcases h1 with q | q
    ·exact q
    ·rcases h2 with z | z
     ·exact z.symm
     ·exact (ltE_asymm (hb.1 x q) (ha.1 y z)).elim
   subst e
   rw [uniq a b ha.2 hb.2 (fun z => ?_)]
   have hz := h z
   rw [List.mem_cons, List.mem_cons] at hz
   constructor
   ·intro q
    rcases hz.1 (.inr q) with e | e
    ·subst e
     exact (ltE_irrefl _ (ha.1 _ q)).elim
    ·exact e
   ·intro q
    rcases hz.2 (.inr q) with e | e
    ·subst e
     exact (ltE_irrefl _ (hb.1 _ q)).elim
    ·exact e
theorem lt_of_le {a : List Ed} (h : a.Pairwise fun x y => ¬ ltE y x) (n : a.Pairwise (· ≠ ·)) : a.Pairwise ltE := by
 refine (List.Pairwise.and h n).imp fun {x y} q => ?_
 rcases ltE_total x y with z | z | z
 ·exact z
 ·exact absurd z q.2
 ·exact absurd z q.1
def allD (P : Ed → Bool) (n : Nat) : List Ed := (List.range n).flatMap fun t => (List.range t).flatMap fun f => ((List.range 6).map fun r => (⟨f, t, r + 1⟩ : Ed)).filter P
theorem allD_mem (P : Ed → Bool) (n : Nat) (x : Ed) : x ∈ allD P n ↔ x.t < n ∧ x.f < x.t ∧ (1 ≤ x.r ∧ x.r ≤ 6) ∧ P x = true := by
 unfold allD
 simp only [List.mem_flatMap, List.mem_range, List.mem_filter, List.mem_map]
 constructor
 ·rintro ⟨t, ht, f, hf, ⟨r, hr, rfl⟩, hp⟩
  exact ⟨ht, hf, ⟨by show 1 ≤ r + 1; omega, by show r + 1 ≤ 6; omega⟩, hp⟩
 ·rintro ⟨h1, h2, h3, h4⟩
  refine ⟨x.t, h1, x.f, h2, ⟨x.r - 1, by omega, ?_⟩, h4⟩
  obtain ⟨f, t, r⟩ := x
  simp only at h3
  simp only [Ed.mk.injEq, true_and]
  omega
theorem allD_srt (P : Ed → Bool) (n : Nat) : (allD P n).Pairwise ltE := by
 unfold allD
 rw [List.pairwise_flatMap]
 refine ⟨fun t _ => ?_, (range_rises n).imp fun {a b} hab x hx y hy => ?_⟩
 ·rw [List.pairwise_flatMap]
  refine ⟨fun f _ => List.Pairwise.filter _ ?_, (range_rises t).imp fun {a b} hab x hx y hy => ?_⟩
  ·rw [List.pairwise_map]
   exact (range_rises 6).imp fun {a b} hab => .inr ⟨rfl, .inr ⟨rfl, by show a + 1 < b + 1; omega⟩⟩
  ·simp only [List.mem_filter, List.mem_map] at hx hy
   obtain ⟨⟨r, -, rfl⟩, -⟩ := hx
   obtain ⟨⟨s, -, rfl⟩, -⟩ := hy
   exact .inr ⟨rfl, .inl hab⟩
 ·simp only [List.mem_flatMap, List.mem_filter, List.mem_map] at hx hy
  obtain ⟨f, -, ⟨r, -, rfl⟩, -⟩ := hx
  obtain ⟨g, -, ⟨s, -, rfl⟩, -⟩ := hy
  exact .inl hab
theorem isD_r {l : List Ev} {x : Ed} (h : isD l x) : 1 ≤ x.r ∧ x.r ≤ 6 := by
 rcases h with q | q | q | ⟨b, -, -, q⟩
 ·have := q.1; omega
 ·have := q.1; omega
 ·have := q.1; omega
 ·have := isC_r q; omega
theorem all_is {l : List Ev} (h : Tok l) {a : List Ed} (hp : a.Perm (allE l)) (hs : a.Pairwise fun x y => ¬ ltE y x) {P : Ed → Bool} (hP : ∀ x : Ed, x.f < x.t → x.t < l.length → (P x = true ↔ isD l x)) : a = allD P l.length := by
 refine uniq a _ (lt_of_le hs ?_) (allD_srt _ _) fun x => ?_
 ·exact (hp.pairwise_iff (fun {x y} (h : x ≠ y) => h.symm)).2 (nd_all h)
 ·rw [hp.mem_iff, all_mem h, allD_mem]
  constructor
  ·intro q
   obtain ⟨h1, h2⟩ := isD_fwd h q
   exact ⟨h2, h1, isD_r q, (hP x h1 h2).2 q⟩
  ·rintro ⟨h1, h2, -, h4⟩
   exact (hP x h2 h1).1 h4
end Eg
end Go.Proofs.YtblfimobiibmjaaGreat
namespace Go.Proofs.YtblfimobiibmjaaGreat
namespace Eg
open En Gu
def tells (e : Ev) : Prop := e.k = 1 ∨ e.k = 3 ∨ e.k = 4 ∨ e.k = 5 ∨ e.k = 6
theorem bg_tells {l : List Ev} (h : Tok l) {c : Int} {b : Bool} {n j : Nat} (hj : j ∈ done l c b n) : ∃ e, l[bg l j]? = some e ∧ tells e := by
 unfold done at hj
 rw [List.mem_flatMap] at hj
 obtain ⟨i, -, hi⟩ := hj
 have hi' := hi
 obtain ⟨⟨x, hx, -⟩, z⟩ := one_at h hi
 by_cases k7 : x.k = 7
 ·obtain ⟨p, y, e1, -, -, e4, e5, -⟩ := bg_wake h hx k7
  rw [e1]
  exact ⟨y, e4, by unfold tells; omega⟩
 ·have e0 : bg l j = j := by
   unfold bg
   rw [hx]
   simp [k7]
  rw [e0]
  refine ⟨x, hx, ?_⟩
  rcases z with z | ⟨-, y, hy, k⟩
  ·subst z
   unfold one at hi'
   rw [hx] at hi'
   simp only at hi'
   split at hi'
   ·simp at hi'
   ·rename_i h1
    have hm : moves x = true := by
     cases q : moves x
     ·exact absurd (.inr q) h1
     ·rfl
    unfold moves at hm
    simp at hm
    unfold tells
    omega
  ·rw [hx] at hy
   cases hy
   exact absurd k k7
theorem isD_tells {l : List Ev} (h : Tok l) {x : Ed} (hx : isD l x) (hr : x.r ≠ 1) : ∃ e, l[x.f]? = some e ∧ tells e := by
 rcases hx with q | ⟨-, b, hb, -, -, ⟨e, e1, e2, -⟩, -⟩ | ⟨-, -, b, hb, -, e, e1, e2, -⟩ | ⟨b, -, -, k, q, hq, ⟨-, p, hp, rfl⟩ | ⟨p, hp, rfl⟩⟩
 ·exact absurd q.1 hr
 ·exact ⟨e, e1, by unfold tells; omega⟩
 ·exact ⟨e, e1, by unfold tells; omega⟩
 ·exact bg_tells h (List.mem_of_getElem? hp)
 ·exact bg_tells h (List.mem_of_getElem? hq)
end Eg
end Go.Proofs.YtblfimobiibmjaaGreat
namespace Go.Proofs.YtblfimobiibmjaaGreat
namespace Eg
open En Gu
theorem take_get {l : List Ev} {n i : Nat} (h : i < n) : (l.take n)[i]? = l[i]? := List.getElem?_take_of_lt h
theorem take_some {l : List Ev} {n i : Nat} {e : Ev} (h : (l.take n)[i]? = some e) : i < n ∧ l[i]? = some e := by
 have := (List.getElem?_eq_some_iff.1 h).1
 rw [List.length_take] at this
 have hn : i < n := by omega
 exact ⟨hn, by rw [← take_get hn]; exact h⟩
theorem take_take {l : List Ev} {n i : Nat} (h : i ≤ n) : (l.take n).take i = l.take i := by rw [List.take_take, Nat.min_eq_left h]
theorem inn_take {l : List Ev} {n : Nat} (c : Int) : ∀ {i : Nat}, i < n → inn (l.take n) i c = inn l i c
 | 0, _ => rfl
 | i + 1, h => by
   show (match (l.take n)[i]? with | some e => ins (inn (l.take n) i c) c e (l.take n)[i + 1]? | none => inn (l.take n) i c) = (match l[i]? with | some e => ins (inn l i c) c e l[i + 1]? | none => inn l i c)
   rw [take_get (show i < n by omega), take_get h, inn_take c (show i < n by omega)]
theorem ord_none {s : In} {e : Ev} {nx : Option Ev} (h : ordered s e nx = true) (hz : (s.L.length : Int) ≤ s.size) : ordered s e none = true := by
 unfold ordered at h ⊢
 cases hm : moves e
 ·rfl
 ·rw [hm, if_pos rfl] at h
  rw [if_pos rfl]
  cases nx with
  | none => exact h
  | some x =>
    have hk : e.k = 3 ∨ (e.k = 4 ∧ e.o = true) := by
     have := hm
     unfold moves at this
     simpa using this
    by_cases k3 : e.k = 3
    ·have e1 : put s.L e (some x) = put s.L e none := by simp [put, k3]
     unfold mov at h ⊢
     rw [e1] at h
     by_cases h0 : e.k = 4 ∨ 0 ≤ e.m
     ·rw [if_pos h0] at h ⊢
      obtain ⟨v, r, hvr⟩ : ∃ v r, put s.L e none = v :: r := by
       simp only [put, k3, if_true]
       cases s.L <;> simp
      rw [hvr] at h ⊢
      exact h
     ·rw [if_neg h0] at h ⊢
      exact h
    ·have k4 : e.k = 4 := by rcases hk with q | q; exact absurd q k3; exact q.1
     by_cases h0 : 0 ≤ e.m
     ·have e1 : put s.L e (some x) = s.L ++ [x.v] := by simp [put, k4, h0]
      have e2 : put s.L e none = s.L := by simp [put, k4]
      unfold mov at h ⊢
      rw [if_pos (.inl k4)] at h ⊢
      rw [e1] at h
      rw [e2]
      cases hL : s.L with
      | nil =>
        rw [hL] at hz
        simp at hz
        simp [h0, hz]
      | cons v r =>
        rw [hL] at h hz
        simp at h hz ⊢
        exact ⟨h.1, by omega⟩
     ·have e1 : put s.L e (some x) = s.L := by simp [put, k4, h0]
      have e2 : put s.L e none = s.L := by simp [put, k4]
      unfold mov at h ⊢
      rw [if_pos (.inl k4)] at h ⊢
      rw [e1] at h
      rw [e2]
      cases hL : s.L with
      | nil =>
        rw [hL] at h
        simp at h
      | cons v r =>
        rw [hL] at h
        exact h
theorem Tok.take {l : List Ev} (h : Tok l) (n : Nat) : Tok (l.take n) := by
 intro i e he
 obtain ⟨hi, hl⟩ := take_some he
 have q := h i e hl
 have od := (h.at hl).od
 have J := h.jc e.c i (Nat.le_of_lt (List.getElem?_eq_some_iff.1 hl).1)
 have od2 : ordered (inn l i e.c) e (l.take n)[i + 1]? = true := by
  rcases Nat.lt_or_ge (i + 1) n with z | z
  ·rw [take_get z]
   exact od
  ·rw [List.getElem?_eq_none (by rw [List.length_take]; omega)]
   exact ord_none od J.bnd
 unfold ruleD at q ⊢
 rw [take_take (Nat.le_of_lt hi), inn_take _ hi, od2]
 rw [od] at q
 exact q
theorem pk_take {l : List Ev} {n : Nat} (g : Int) : ∀ {i : Nat}, i ≤ n → pkF (l.take n) g i = pkF l g i
 | 0, _ => rfl
 | i + 1, h => by
   show (match (l.take n)[i]? with | some e => if e.k = 6 ∧ e.g = g then some i else pkF (l.take n) g i | none => pkF (l.take n) g i) = (match l[i]? with | some e => if e.k = 6 ∧ e.g = g then some i else pkF l g i | none => pkF l g i)
   rw [take_get (show i < n by omega), pk_take g (show i ≤ n by omega)]
theorem bg_take {l : List Ev} {n i : Nat} (h : i < n) : bg (l.take n) i = bg l i := by
 unfold bg
 rw [take_get h]
 split
 ·rfl
 ·split
  ·rfl
  ·rw [pk_take _ (Nat.le_of_lt h)]
theorem one_take {l : List Ev} {n i : Nat} (c : Int) (b : Bool) (h : i < n) (hn : n ≤ l.length) : ∃ r, one l c b i = one (l.take n) c b i ++ r ∧ (i + 1 < n → r = []) := by
 have hl : (l.take n).length = n := by rw [List.length_take]; omega
 unfold one
 rw [take_get h, hl]
 cases l[i]? with
 | none => exact ⟨[], rfl, fun _ => rfl⟩
 | some e =>
   simp only
   split
   ·exact ⟨[], rfl, fun _ => rfl⟩
   ·split
    ·exact ⟨[], by simp, fun _ => rfl⟩
    ·by_cases h1 : 0 ≤ e.m ∧ i + 1 < n
     ·rw [if_pos h1, if_pos ⟨h1.1, by omega⟩]
      exact ⟨[], by simp, fun _ => rfl⟩
     ·rw [if_neg h1]
      refine ⟨_, (List.nil_append _).symm, fun q => ?_⟩
      rw [if_neg (fun z => h1 ⟨z.1, q⟩)]
theorem done_take1 {l : List Ev} {n : Nat} (c : Int) (b : Bool) (hn : n ≤ l.length) : ∀ {m : Nat}, m < n → done (l.take n) c b m = done l c b m
 | 0, _ => rfl
 | m + 1, h => by
   obtain ⟨r, h1, h2⟩ := one_take (l := l) c b (show m < n by omega) hn
   rw [done_succ, done_succ, done_take1 c b hn (show m < n by omega), h1, h2 h, List.append_nil]
theorem done_app {l : List Ev} (c : Int) (b : Bool) (n : Nat) : ∀ m, ∃ r, done l c b (n + m) = done l c b n ++ r
 | 0 => ⟨[], by simp⟩
 | m + 1 => by
   obtain ⟨r, h⟩ := done_app c b n m
   refine ⟨r ++ one l c b (n + m), ?_⟩
   rw [← Nat.add_assoc, done_succ, h, List.append_assoc]
theorem done_take {l : List Ev} {n : Nat} (c : Int) (b : Bool) (hn : n ≤ l.length) : ∃ r, done l c b l.length = done (l.take n) c b n ++ r := by
 obtain ⟨r1, h1⟩ := done_app (l := l) c b n (l.length - n)
 rw [show n + (l.length - n) = l.length by omega] at h1
 cases n with
 | zero => exact ⟨r1, h1⟩
 | succ m =>
   obtain ⟨r, h2, -⟩ := one_take (l := l) c b (show m < m + 1 by omega) hn
   refine ⟨r ++ r1, ?_⟩
   rw [h1, done_succ, done_succ, done_take1 c b hn (show m < m + 1 by omega), h2]
   simp
theorem done_get {l : List Ev} {n k p : Nat} {c : Int} {b : Bool} (hn : n ≤ l.length) (h : (done (l.take n) c b (l.take n).length)[k]? = some p) : (done l c b l.length)[k]? = some p := by
 rw [show (l.take n).length = n by rw [List.length_take]; omega] at h
 obtain ⟨r, hr⟩ := done_take (l := l) c b hn
 rw [hr, List.getElem?_append_left (List.getElem?_eq_some_iff.1 h).1]
 exact h
theorem sz_take {l : List Ev} (h : Tok l) {n j : Nat} {c : Int} {b : Bool} (hj : j ∈ done (l.take n) c b (l.take n).length) : szF (l.take n) c = szF l c := by
 unfold done at hj
 rw [List.mem_flatMap] at hj
 obtain ⟨i, -, hi⟩ := hj
 unfold one at hi
 cases he : (l.take n)[i]? with
 | none => rw [he] at hi; simp at hi
 | some e =>
   rw [he] at hi
   simp only at hi
   split at hi
   ·simp at hi
   ·rename_i h1
    have hc : e.c = c := by
     rcases Classical.em (e.c = c) with q | q
     ·exact q
     ·exact absurd (.inl q) h1
    have hm : moves e = true := by
     cases q : moves e
     ·exact absurd (.inr q) h1
     ·rfl
    obtain ⟨hin, hl⟩ := take_some he
    have a1 := ((h.take n).size he hm).1
    have a2 := (h.size hl hm).1
    rw [inn_take _ hin] at a1
    rw [hc] at a1 a2
    omega
theorem btw_take {l : List Ev} {n f t : Nat} {g : Int} (h : t ≤ n) : btw (l.take n) f t g ↔ btw l f t g := by
 constructor
 ·rintro ⟨k, e, h1, h2, h3, h4⟩
  exact ⟨k, e, h1, h2, (take_some h3).2, h4⟩
 ·rintro ⟨k, e, h1, h2, h3, h4⟩
  exact ⟨k, e, h1, h2, by rw [take_get (by omega)]; exact h3, h4⟩
theorem isD_take {l : List Ev} (h : Tok l) {n : Nat} (hn : n ≤ l.length) {x : Ed} (hx : isD (l.take n) x) : isD l x := by
 have hf := isD_fwd (h.take n) hx
 have hl : (l.take n).length = n := by rw [List.length_take]; omega
 rw [hl] at hf
 rcases hx with ⟨r, b, hb, h13, q1, ⟨e, e1, e2⟩, q3⟩ | ⟨r, b, hb, h13, q1, ⟨e, e1, e2⟩, q3⟩ | ⟨r, q1, b, hb, hk, e, e1, e2⟩ | ⟨b, hb, h0, k, q, hq, z⟩
 ·exact .inl ⟨r, b, (take_some hb).2, h13, q1, ⟨e, (take_some e1).2, e2⟩, fun w => q3 ((btw_take (by omega)).2 w)⟩
 ·exact .inr (.inl ⟨r, b, (take_some hb).2, h13, q1, ⟨e, (take_some e1).2, e2⟩, fun w => q3 ((btw_take (by omega)).2 w)⟩)
 ·exact .inr (.inr (.inl ⟨r, q1, b, (take_some hb).2, hk, e, (take_some e1).2, e2⟩))
 ·have hq' := done_get hn hq
  refine .inr (.inr (.inr ⟨b, (take_some hb).2, h0, k, q, hq', ?_⟩))
  rcases z with ⟨r, p, hp, rfl⟩ | ⟨p, hp, rfl⟩
  ·refine .inl ⟨r, p, done_get hn hp, ?_⟩
   obtain ⟨⟨y, hy, -⟩, -⟩ := done_lt (h.take n) _ _ (List.mem_of_getElem? hp)
   rw [bg_take (take_some hy).1]
  ·have hs := sz_take h (List.mem_of_getElem? hq)
   refine .inr ⟨p, ?_, ?_⟩
   ·rw [← hs]
    exact done_get hn hp
   ·obtain ⟨⟨y, hy, -⟩, -⟩ := done_lt (h.take n) _ _ (List.mem_of_getElem? hq)
    rw [bg_take (take_some hy).1, hs]
end Eg
end Go.Proofs.YtblfimobiibmjaaGreat
namespace Go.Proofs.YtblfimobiibmjaaGreat
namespace Eg
open En Gu
end Eg
end Go.Proofs.YtblfimobiibmjaaGreat
