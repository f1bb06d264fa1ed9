/- The gauge in plain words: the document's rules (each event against all ahead of it) and the reader's (what it keeps), and that both break the same rule at the same event. -/
import Derived.Test.YtakbbhngcdccpaaGreatNd
namespace Go.Proofs.YtakbbhngcdccpaaGreat
namespace Gu
open En

/-! The gauge in plain words: the document's (each event against all ahead of it) and the reader's (what it keeps). -/

def there (p : List Ev) : Nat := 1 + p.countP (fun x => decide (x.k = 1))
def exitF (g : Int) (p : List Ev) : Bool := p.any fun x => decide (x.g = g) && decide (x.k = 11)
def wstep (g : Int) (b : Bool) (x : Ev) : Bool := if x.g ≠ g then b else if x.k = 6 then true else if x.k = 7 then false else b
def waitsF (g : Int) (p : List Ev) : Bool := p.foldl (wstep g) false
def panF (p : List Ev) : Bool := p.any fun x => decide (x.k = 12)
/-- rule 2, the document's -/
def crew (p : List Ev) (e : Ev) : Bool :=
  !panF p && (decide (e.k = 13) || (decide (e.g < there p) && !exitF e.g p && (decide (e.k = 12) || waitsF e.g p == decide (e.k = 7)) && (decide (e.k ≠ 1) || decide (e.m = there p))))

theorem there_app (p : List Ev) (e : Ev) : there (p ++ [e]) = there p + if e.k = 1 then 1 else 0 := by
  simp only [there, List.countP_append, List.countP_cons, List.countP_nil, decide_eq_true_eq]; omega
theorem exit_app (g : Int) (p : List Ev) (e : Ev) : exitF g (p ++ [e]) = (exitF g p || (decide (e.g = g) && decide (e.k = 11))) := by
  simp [exitF]
theorem waits_app (g : Int) (p : List Ev) (e : Ev) : waitsF g (p ++ [e]) = wstep g (waitsF g p) e := by
  simp [waitsF]
theorem pan_app (p : List Ev) (e : Ev) : panF (p ++ [e]) = (panF p || decide (e.k = 12)) := by simp [panF]

/-- what one in this state may do -/
def may (t k : Int) : Bool := if k = 7 then decide (t = 1) else if k = 12 then decide (t ≠ 2) else decide (t = 0)
/-- rule 2, the reader's -/
def r2 (st : List Int) (pn : Bool) (e : Ev) : Option (List Int × Bool) :=
  if pn then none
  else if e.k = 13 then some (st, pn)
  else if (st.length : Int) ≤ e.g then none
  else if may (st.getD e.g.toNat 0) e.k = false then none
  else if e.k = 1 then if e.m ≠ st.length then none else some (st ++ [0], pn)
  else if e.k = 6 then some (st.set e.g.toNat 1, pn)
  else if e.k = 7 then some (st.set e.g.toNat 0, pn)
  else if e.k = 11 then some (st.set e.g.toNat 2, pn)
  else if e.k = 12 then some (st, true)
  else some (st, pn)
/-- where one is -/
def is (g : Int) (p : List Ev) : Int := if exitF g p then 2 else if waitsF g p then 1 else 0
structure IC (p : List Ev) (st : List Int) (pn : Bool) : Prop where
  len : st.length = there p
  at_ : ∀ g : Nat, g < st.length → st.getD g 0 = is g p
  few : ∀ g : Nat, st.length ≤ g → exitF g p = false ∧ waitsF g p = false
  pn : pn = panF p
theorem IC.nil : IC [] [0] false := ⟨rfl, fun g h => by
  have : g = 0 := by simp at h; exact h
  subst this; rfl, fun _ _ => ⟨rfl, rfl⟩, rfl⟩
theorem is_app_other {g : Int} {p : List Ev} {e : Ev} (h : e.g ≠ g) : is g (p ++ [e]) = is g p := by
  simp [is, exit_app, waits_app, wstep, h]
theorem ew_app_other {g : Int} {p : List Ev} {e : Ev} (h : e.g ≠ g) : exitF g (p ++ [e]) = exitF g p ∧ waitsF g (p ++ [e]) = waitsF g p := by
  simp [exit_app, waits_app, wstep, h]
theorem may_is (g : Int) (p : List Ev) (k : Int) : may (is g p) k = (!exitF g p && (decide (k = 12) || waitsF g p == decide (k = 7))) := by
  unfold may is
  by_cases h7 : k = 7
  · subst h7; cases exitF g p <;> cases waitsF g p <;> simp
  · by_cases h12 : k = 12
    · subst h12; cases exitF g p <;> cases waitsF g p <;> simp
    · cases exitF g p <;> cases waitsF g p <;> simp [h7, h12]
theorem r2_some {p : List Ev} {st : List Int} {pn : Bool} (I : IC p st pn) (e : Ev) (hg : e.k ≠ 13 → 0 ≤ e.g) : (r2 st pn e).isSome = crew p e := by
  unfold r2 crew
  rw [← I.pn]
  cases pn
  case true => simp
  case false =>
  by_cases h13 : e.k = 13
  · simp [h13]
  · have g0 := hg h13
    by_cases hl : (st.length : Int) ≤ e.g
    · have : ¬ (e.g < there p) := by rw [← I.len]; omega
      simp [h13, hl, this]
    · have hlt : e.g < there p := by rw [← I.len]; omega
      have hn : e.g.toNat < st.length := by omega
      have hat := I.at_ _ hn
      have ge : ((e.g.toNat : Nat) : Int) = e.g := by omega
      rw [ge] at hat
      rw [hat, may_is]
      cases hm : (!exitF e.g p && (decide (e.k = 12) || waitsF e.g p == decide (e.k = 7)))
      · simp only [Bool.and_assoc] at hm ⊢
        simp [h13, hl, hlt]
        revert hm
        cases exitF e.g p <;> simp
        intro a b
        simp [a, b]
      · have hx : exitF e.g p = false := by revert hm; cases exitF e.g p <;> simp
        have hw : (decide (e.k = 12) || waitsF e.g p == decide (e.k = 7)) = true := by revert hm; rw [hx]; simp
        rw [if_neg (by simp), if_neg h13, if_neg hl, if_neg (by simp)]
        have R : (!false && (decide (e.k = 13) || (decide (e.g < there p) && !exitF e.g p && (decide (e.k = 12) || waitsF e.g p == decide (e.k = 7)) && (decide (e.k ≠ 1) || decide (e.m = there p))))) = (decide (e.k ≠ 1) || decide (e.m = there p)) := by
          rw [hx, hw, decide_eq_true hlt, decide_eq_false h13]; simp
        rw [R, ← I.len]
        by_cases h1 : e.k = 1
        · rw [if_pos h1]
          by_cases hm' : e.m = st.length <;> simp [h1, hm']
        · rw [if_neg h1]
          have : (decide (e.k ≠ 1) || decide (e.m = (st.length : Int))) = true := by simp [h1]
          rw [this]
          repeat' split
          all_goals rfl
theorem IC.same {p : List Ev} {st : List Int} {pn : Bool} (I : IC p st pn) (e : Ev) (h : e.k ≠ 1) (h6 : e.k ≠ 6) (h7 : e.k ≠ 7) (h11 : e.k ≠ 11) : IC (p ++ [e]) st (pn || decide (e.k = 12)) := by
  have hi : ∀ g, exitF g (p ++ [e]) = exitF g p ∧ waitsF g (p ++ [e]) = waitsF g p := fun g => by
    simp [exit_app, waits_app, wstep, h6, h7, h11]
  refine ⟨?_, fun g hg => ?_, fun g hg => ?_, ?_⟩
  · rw [there_app, I.len]; simp [h]
  · rw [I.at_ g hg]; simp [is, hi]
  · rw [(hi g).1, (hi g).2]; exact I.few g hg
  · rw [pan_app, I.pn]
theorem IC.set {p : List Ev} {st : List Int} {pn : Bool} (I : IC p st pn) (e : Ev) (h0 : 0 ≤ e.g) (hl : e.g < st.length) (h1 : e.k ≠ 1) (h12 : e.k ≠ 12) (x : Int) (hx : is e.g (p ++ [e]) = x) : IC (p ++ [e]) (st.set e.g.toNat x) pn := by
  refine ⟨?_, fun g hg => ?_, fun g hg => ?_, ?_⟩
  · rw [List.length_set, there_app, I.len]; simp [h1]
  · rw [List.length_set] at hg
    by_cases hge : e.g.toNat = g
    · subst hge
      have ge : ((e.g.toNat : Nat) : Int) = e.g := by omega
      rw [ge, hx]
      simp [List.getD_eq_getElem?_getD, hg]
    · have ne : e.g ≠ (g : Int) := by omega
      rw [is_app_other ne, ← I.at_ g hg]
      simp [List.getD_eq_getElem?_getD, List.getElem?_set_ne hge]
  · rw [List.length_set] at hg
    have ne : e.g ≠ (g : Int) := by omega
    rw [(ew_app_other ne).1, (ew_app_other ne).2]
    exact I.few g hg
  · rw [pan_app, I.pn]; simp [h12]
theorem r2_keeps {p : List Ev} {st : List Int} {pn : Bool} (I : IC p st pn) (e : Ev) (hg : e.k ≠ 13 → 0 ≤ e.g) {st' : List Int} {pn' : Bool} (h : r2 st pn e = some (st', pn')) : IC (p ++ [e]) st' pn' := by
  unfold r2 at h
  cases pn
  case true => simp at h
  case false =>
  by_cases h13 : e.k = 13
  · simp [h13] at h
    obtain ⟨rfl, rfl⟩ := h
    have := I.same e (by omega) (by omega) (by omega) (by omega)
    simpa [h13] using this
  · have g0 := hg h13
    by_cases hl : (st.length : Int) ≤ e.g
    · simp [h13, hl] at h
    have hn : e.g.toNat < st.length := by omega
    have hat := I.at_ _ hn
    have ge : ((e.g.toNat : Nat) : Int) = e.g := by omega
    rw [ge] at hat
    rw [hat] at h
    have hl' : e.g < st.length := by omega
    by_cases hm : may (is e.g p) e.k = false
    · simp [h13, hl, hm] at h
    rw [if_neg (by simp), if_neg h13, if_neg hl, if_neg hm] at h
    have hm' : may (is e.g p) e.k = true := by simpa using hm
    rw [may_is] at hm'
    have hx : exitF e.g p = false := by revert hm'; cases exitF e.g p <;> simp
    by_cases h1 : e.k = 1
    · rw [if_pos h1] at h
      by_cases hmm : e.m = st.length
      · simp [hmm] at h
        obtain ⟨rfl, rfl⟩ := h
        have hi : ∀ g, exitF g (p ++ [e]) = exitF g p ∧ waitsF g (p ++ [e]) = waitsF g p := fun g => by
          simp [exit_app, waits_app, wstep, h1]
        refine ⟨?_, fun g hg => ?_, fun g hg => ?_, ?_⟩
        · rw [there_app, List.length_append, I.len]; simp [h1]
        · simp only [is, hi]
          by_cases hlt : g < st.length
          · have := I.at_ g hlt
            simp only [is] at this
            rw [← this]
            simp [List.getD_eq_getElem?_getD, List.getElem?_append_left hlt]
          · have he : g = st.length := by simp at hg; omega
            have := I.few g (by omega)
            rw [this.1, this.2]
            subst he
            simp [List.getD_eq_getElem?_getD]
        · rw [(hi g).1, (hi g).2]
          exact I.few g (by simp at hg; omega)
        · rw [pan_app, ← I.pn]; simp [h1]
      · simp [hmm] at h
    rw [if_neg h1] at h
    by_cases h6 : e.k = 6
    · rw [if_pos h6] at h
      obtain ⟨rfl, rfl⟩ := by simpa using h
      exact I.set e g0 hl' h1 (by omega) 1 (by simp [is, exit_app, waits_app, wstep, h6, hx])
    rw [if_neg h6] at h
    by_cases h7 : e.k = 7
    · rw [if_pos h7] at h
      obtain ⟨rfl, rfl⟩ := by simpa using h
      exact I.set e g0 hl' h1 (by omega) 0 (by simp [is, exit_app, waits_app, wstep, h7, hx])
    rw [if_neg h7] at h
    by_cases h11 : e.k = 11
    · rw [if_pos h11] at h
      obtain ⟨rfl, rfl⟩ := by simpa using h
      exact I.set e g0 hl' h1 (by omega) 2 (by simp [is, exit_app, h11])
    rw [if_neg h11] at h
    have S := I.same e h1 h6 h7 h11
    by_cases h12 : e.k = 12
    · rw [if_pos h12] at h
      obtain ⟨rfl, rfl⟩ := by simpa using h
      simpa [h12] using S
    · rw [if_neg h12] at h
      obtain ⟨rfl, rfl⟩ := by simpa using h
      simpa [h12] using S
/-! Rule 4. -/
def serves (e : Ev) : Bool := (decide (e.k = 3) || decide (e.k = 4)) && decide (0 ≤ e.m)
/-- an event's service, the document's -/
def servF (s e : Ev) : Bool := decide (e.k = 7) && decide (e.g = s.m) && decide (e.m = s.g) && decide (e.c = s.c) && (e.s != s.s) && e.o && (!s.s || decide (e.v = s.v))
/-- the Close that a Wake is of; the events ahead, the last first -/
def back (e : Ev) : List Ev → Bool
  | [] => false
  | x :: r => if x.k = 5 then decide (x.g = e.m) && decide (x.c = e.c) else if x.k ≠ 7 then false else if (r.head?.any serves) then false else back e r
def wakeF (r : List Ev) (e : Ev) : Bool := if e.k ≠ 7 then true else if e.o || e.s then false else back e r
def served (r : List Ev) (e : Ev) : Bool := match r with
  | [] => wakeF [] e
  | s :: r' => if serves s then servF s e else wakeF (s :: r') e
/-- the reader's -/
def owed (x : Ev) : Bool := (decide (x.k = 3) || decide (x.k = 4)) && decide (x.m ≠ -1)
def servP (s e : Ev) : Bool :=
  if e.k ≠ 7 ∨ e.g ≠ s.m ∨ e.m ≠ s.g ∨ e.c ≠ s.c ∨ e.o = false then false
  else if s.k = 4 then e.s else !e.s && decide (e.v = s.v)
def closeP (la e : Ev) : Bool := decide (la.k = 5) && decide (e.m = la.g) && decide (e.c = la.c) && !e.s && !e.o
def r4 (la e : Ev) : Option Ev :=
  if owed la then if servP la e then some e else none
  else if e.k ≠ 7 then some e
  else if closeP la e then some la else none
/-- what the first rule says of an event, as far as it is asked here -/
structure Fit (e : Ev) : Prop where
  g : e.k ≠ 13 → 0 ≤ e.g
  c : e.k = 2 ∨ e.k = 3 ∨ e.k = 4 ∨ e.k = 5 → 0 ≤ e.c
  m : -1 ≤ e.m
  s3 : e.k = 3 → e.s = true
  s4 : e.k = 4 → e.s = false
  v : e.k = 2 → 0 ≤ e.v
def ev0 : Ev := ⟨0, 0, 0, 0, 0, 0, false, false⟩
/-- what is kept of the events ahead, the last first -/
structure IS (r : List Ev) (la : Ev) : Prop where
  ow : owed la = r.head?.any serves
  eq : owed la = true → r.head? = some la
  fit : Fit la
  bk : owed la = false → ∀ e : Ev, back e r = (decide (la.k = 5) && decide (la.g = e.m) && decide (la.c = e.c))
theorem Fit.zero : Fit ev0 := ⟨fun _ => by decide, fun _ => by decide, by decide, fun h => by revert h; decide, fun h => by revert h; decide, fun h => by revert h; decide⟩
theorem IS.nil : IS [] ev0 := ⟨rfl, fun h => absurd h (by decide), Fit.zero, fun _ e => by simp [back, ev0]⟩
theorem owed_serves {e : Ev} (f : Fit e) : owed e = serves e := by
  have := f.m
  unfold owed serves
  by_cases h : e.m = -1
  · simp [h]
  · have : 0 ≤ e.m := by omega
    simp [h, this]
theorem serv_eq {s e : Ev} (f : Fit s) (h : serves s = true) : servP s e = servF s e := by
  have hk : s.k = 3 ∨ s.k = 4 := by
    unfold serves at h
    simp at h
    exact h.1
  unfold servP servF
  by_cases a1 : e.k = 7 <;> by_cases a2 : e.g = s.m <;> by_cases a3 : e.m = s.g <;> by_cases a4 : e.c = s.c <;> simp [a1, a2, a3, a4]
  rcases hk with hk | hk
  · rw [f.s3 hk]
    cases e.o <;> cases e.s <;> simp [hk]
  · rw [f.s4 hk]
    cases e.o <;> cases e.s <;> simp [hk]
theorem r4_some {r : List Ev} {la : Ev} (I : IS r la) (e : Ev) : (r4 la e).isSome = served r e := by
  unfold r4
  cases ho : owed la
  · have hh := I.ow
    rw [ho] at hh
    have hw : served r e = wakeF r e := by
      cases r with
      | nil => rfl
      | cons s r' =>
        have hs : serves s = false := by simpa using hh.symm
        simp [served, hs]
    rw [hw, if_neg (by simp)]
    unfold wakeF
    by_cases h7 : e.k = 7
    · have n7 : ¬ (e.k ≠ 7) := fun q => q h7
      rw [if_neg n7, if_neg n7, I.bk ho e]
      unfold closeP
      rw [show decide (e.m = la.g) = decide (la.g = e.m) from decide_eq_decide.2 eq_comm, show decide (e.c = la.c) = decide (la.c = e.c) from decide_eq_decide.2 eq_comm]
      cases e.o <;> cases e.s <;> cases decide (la.k = 5) <;> cases decide (la.g = e.m) <;> cases decide (la.c = e.c) <;> rfl
    · rw [if_pos h7, if_pos h7]; rfl
  · have hr := I.eq ho
    have hs : serves la = true := by rw [← owed_serves I.fit]; exact ho
    cases r with
    | nil => simp at hr
    | cons s r' =>
      simp only [List.head?_cons, Option.some.injEq] at hr
      subst hr
      rw [if_pos rfl]
      simp only [served, hs, if_true]
      rw [serv_eq I.fit hs]
      cases servF s e <;> rfl
theorem r4_keeps {r : List Ev} {la : Ev} (I : IS r la) (e : Ev) (f : Fit e) {la' : Ev} (h : r4 la e = some la') : IS (e :: r) la' := by
  unfold r4 at h
  cases ho : owed la
  · rw [ho, if_neg (by simp)] at h
    by_cases h7 : e.k = 7
    · rw [if_neg (by simp [h7])] at h
      by_cases hc : closeP la e = true
      · rw [if_pos hc] at h
        cases h
        have hk : la.k = 5 := by revert hc; unfold closeP; simp; intro a; simp [a]
        have hn : serves e = false := by simp [serves, h7]
        refine ⟨?_, ?_, I.fit, fun _ x => ?_⟩
        · rw [ho]; simp [hn]
        · rw [ho]; intro q; cases q
        · have hh := I.ow
          rw [ho] at hh
          rw [← I.bk ho x]
          simp [back, h7, ← hh]
      · rw [if_neg hc] at h; cases h
    · rw [if_pos h7] at h
      cases h
      refine ⟨?_, fun _ => rfl, f, fun _ x => ?_⟩
      · rw [owed_serves f]; simp
      · by_cases h5 : e.k = 5
        · simp [back, h5]
        · simp [back, h5, h7]
  · rw [ho, if_pos rfl] at h
    by_cases hv : servP la e = true
    · rw [if_pos hv] at h
      cases h
      have h7 : e.k = 7 := by
        apply Classical.byContradiction
        intro q
        simp [servP, q] at hv
      refine ⟨?_, fun _ => rfl, f, fun _ x => ?_⟩
      · rw [owed_serves f]; simp
      · have hr := I.ow
        rw [ho] at hr
        simp [back, h7, ← hr]
    · rw [if_neg hv] at h; cases h
/-! Rules 3, 5 and 6. -/
def made (p : List Ev) (e : Ev) : Bool := if e.k = 2 then decide (e.c = p.countP fun x => decide (x.k = 2)) else decide (e.c < p.countP fun x => decide (x.k = 2))
structure In where
  size : Int
  L : List Int
  closed : Bool
  right : Bool
def in0 : In := ⟨0, [], false, true⟩
def moves (e : Ev) : Bool := decide (e.k = 3) || (decide (e.k = 4) && e.o)
/-- what an event puts in -/
def put (L : List Int) (e : Ev) (nx : Option Ev) : List Int :=
  if e.k = 3 then L ++ [e.v] else if 0 ≤ e.m then match nx with
    | some x => L ++ [x.v]
    | none => L
  else L
/-- a channel behind an event of its own that moves a value -/
def mov (s : In) (e : Ev) (nx : Option Ev) : In :=
  if e.k = 4 ∨ 0 ≤ e.m then match put s.L e nx with
    | v :: r => ⟨s.size, r, s.closed, decide (v = e.v) && decide ((r.length : Int) ≤ s.size)⟩
    | [] => ⟨s.size, [], s.closed, (decide (0 ≤ e.m) && nx.isNone) && decide (0 ≤ s.size)⟩
  else ⟨s.size, put s.L e nx, s.closed, decide (((put s.L e nx).length : Int) ≤ s.size)⟩
/-- a channel behind an event, the document's -/
def ins (s : In) (c : Int) (e : Ev) (nx : Option Ev) : In :=
  if e.c ≠ c then s
  else if moves e then mov s e nx
  else ⟨if e.k = 2 then e.v else s.size, s.L, if e.k = 5 then true else s.closed, s.right⟩
def ordered (s : In) (e : Ev) (nx : Option Ev) : Bool := if moves e then (mov s e nx).right else true
def closedF (s : In) (e : Ev) : Bool :=
  if e.k < 3 ∨ 5 < e.k then true
  else if e.k = 4 ∧ e.o = false then s.closed && s.L.isEmpty
  else if e.k = 4 ∧ e.m < 0 then true
  else !s.closed

/-- the reader's channel -/
structure Chn where
  cap : Int
  vs : List Int
  cl : Bool
def chz : Chn := ⟨0, [], false⟩
def r3 (ch : List Chn) (e : Ev) : Option (List Chn) :=
  if e.k = 2 then if e.c ≠ ch.length then none else some (ch ++ [⟨e.v, [], false⟩])
  else if e.c < ch.length then some ch else none
def putP (c : Chn) (e : Ev) (nx : Option Ev) : List Int :=
  if e.k = 3 then c.vs ++ [e.v] else if e.m ≠ -1 then match nx with
    | some x => c.vs ++ [x.v]
    | none => c.vs
  else c.vs
def r5c (c : Chn) (e : Ev) (nx : Option Ev) : Option Chn :=
  if e.k = 4 ∨ e.m ≠ -1 then match putP c e nx with
    | [] => if e.m ≠ -1 then some c else none
    | v :: r => if v ≠ e.v then none else if (r.length : Int) ≤ c.cap then some ⟨c.cap, r, c.cl⟩ else none
  else if ((putP c e nx).length : Int) ≤ c.cap then some ⟨c.cap, putP c e nx, c.cl⟩ else none
def r5 (ch : List Chn) (e : Ev) (nx : Option Ev) : Option (List Chn) :=
  if moves e then (r5c (ch.getD e.c.toNat chz) e nx).map fun c => ch.set e.c.toNat c else some ch
def r6 (ch : List Chn) (e : Ev) : Option (List Chn) :=
  let c := ch.getD e.c.toNat chz
  if e.k = 5 then if c.cl then none else some (ch.set e.c.toNat ⟨c.cap, c.vs, true⟩)
  else if e.k = 3 then if c.cl then none else some ch
  else if e.k = 4 then
    if e.o = false then if c.cl && c.vs.isEmpty then some ch else none
    else if e.m = -1 ∨ c.cl = false then some ch else none
  else some ch

def chOf (s : In) : Chn := ⟨s.size, s.L, s.closed⟩
theorem put_eq {e : Ev} (f : Fit e) (s : In) (nx : Option Ev) : putP (chOf s) e nx = put s.L e nx := by
  unfold putP put chOf
  have := f.m
  by_cases h : e.m = -1
  · simp [h]
  · have h' : 0 ≤ e.m := by omega
    simp [h, h']
theorem mov_size (s : In) (e : Ev) (nx : Option Ev) : (mov s e nx).size = s.size := by
  unfold mov; repeat' split
  all_goals rfl
theorem mov_closed (s : In) (e : Ev) (nx : Option Ev) : (mov s e nx).closed = s.closed := by
  unfold mov; repeat' split
  all_goals rfl
theorem r5c_is {e : Ev} (f : Fit e) {s : In} (h0 : 0 ≤ s.size) (nx : Option Ev) :
    r5c (chOf s) e nx = if (mov s e nx).right then some (chOf (mov s e nx)) else none := by
  unfold r5c mov
  rw [put_eq f]
  have fm := f.m
  have e1 : (e.k = 4 ∨ e.m ≠ -1) ↔ (e.k = 4 ∨ 0 ≤ e.m) := by
    constructor
    · rintro (h | h)
      · exact .inl h
      · exact .inr (by omega)
    · rintro (h | h)
      · exact .inl h
      · exact .inr (by omega)
  by_cases h : e.k = 4 ∨ 0 ≤ e.m
  · rw [if_pos (e1.2 h), if_pos h]
    cases hp : put s.L e nx with
    | nil =>
      have hL : s.L = [] ∧ (0 ≤ e.m → nx.isNone = true) := by
        unfold put at hp
        by_cases h3 : e.k = 3
        · simp [h3] at hp
        · simp only [h3, if_false] at hp
          by_cases hmm : 0 ≤ e.m
          · rw [if_pos hmm] at hp
            cases nx with
            | none => exact ⟨hp, fun _ => rfl⟩
            | some x => simp at hp
          · rw [if_neg hmm] at hp
            exact ⟨hp, fun q => absurd q hmm⟩
      by_cases hmm : 0 ≤ e.m
      · have : e.m ≠ -1 := by omega
        simp [this, hmm, hL.2 hmm, h0, chOf, hL.1]
      · have : e.m = -1 := by omega
        simp [this]
    | cons v r =>
      by_cases hv : v = e.v
      · by_cases hr : (r.length : Int) ≤ s.size
        · simp [hv, hr, chOf]
        · simp [hv, hr, chOf]
      · simp [hv]
  · rw [if_neg (fun q => h (e1.1 q)), if_neg h]
    by_cases hr : ((put s.L e nx).length : Int) ≤ s.size
    · simp [hr, chOf]
    · simp [hr, chOf]

structure IM (p : List Ev) (K : Int → In) (ch : List Chn) : Prop where
  len : ch.length = p.countP fun x => decide (x.k = 2)
  at_ : ∀ c : Nat, c < ch.length → ch.getD c chz = chOf (K c) ∧ 0 ≤ (K c).size
  few : ∀ c : Nat, ch.length ≤ c → K c = in0
theorem IM.nil : IM [] (fun _ => in0) [] := ⟨rfl, fun _ h => by simp at h, fun _ _ => rfl⟩
theorem r3_some {p : List Ev} {K : Int → In} {ch : List Chn} (I : IM p K ch) (e : Ev) : (r3 ch e).isSome = made p e := by
  unfold r3 made
  rw [← I.len]
  by_cases h : e.k = 2
  · by_cases hc : e.c = ch.length <;> simp [h, hc]
  · by_cases hc : e.c < ch.length <;> simp [h, hc]
theorem IM.set {p : List Ev} {K : Int → In} {ch : List Chn} (I : IM p K ch) (e : Ev) (nx : Option Ev) (h2 : e.k ≠ 2) (h0 : 0 ≤ e.c) (hl : e.c < ch.length)
    (x : Chn) (hx : x = chOf (ins (K e.c) e.c e nx)) : IM (p ++ [e]) (fun c => ins (K c) c e nx) (ch.set e.c.toNat x) := by
  have ce : ((e.c.toNat : Nat) : Int) = e.c := by omega
  refine ⟨?_, fun c hc => ?_, fun c hc => ?_⟩
  · rw [List.length_set, I.len]; simp [List.countP_append, h2]
  · rw [List.length_set] at hc
    by_cases he : e.c.toNat = c
    · subst he
      rw [ce]
      refine ⟨?_, ?_⟩
      · rw [hx]; simp [List.getD_eq_getElem?_getD, hc]
      · have := (I.at_ _ hc).2
        rw [ce] at this
        unfold ins
        rw [if_neg (by simp)]
        split
        · rw [mov_size]; exact this
        · simpa [h2] using this
    · have ne : e.c ≠ (c : Int) := by omega
      have := I.at_ c hc
      simp only [ins, ne, ne_eq, not_false_eq_true, if_true]
      refine ⟨?_, this.2⟩
      rw [← this.1]
      simp [List.getD_eq_getElem?_getD, List.getElem?_set_ne he]
  · rw [List.length_set] at hc
    have ne : e.c ≠ (c : Int) := by omega
    simp only [ins, ne, ne_eq, not_false_eq_true, if_true]
    exact I.few c hc
theorem IM.rest {p : List Ev} {K : Int → In} {ch : List Chn} (I : IM p K ch) (e : Ev) (nx : Option Ev) (h2 : e.k ≠ 2) (h5 : e.k ≠ 5) (hm : moves e = false) : IM (p ++ [e]) (fun c => ins (K c) c e nx) ch := by
  have hi : ∀ c, ins (K c) c e nx = K c := fun c => by
    unfold ins
    split
    · rfl
    · rw [hm]; rfl
  simp only [hi]
  refine ⟨?_, I.at_, I.few⟩
  rw [I.len]; simp [List.countP_append, h2]
theorem IM.make {p : List Ev} {K : Int → In} {ch : List Chn} (I : IM p K ch) (e : Ev) (nx : Option Ev) (h2 : e.k = 2) (hc : e.c = ch.length) (hv : 0 ≤ e.v) : IM (p ++ [e]) (fun c => ins (K c) c e nx) (ch ++ [⟨e.v, [], false⟩]) := by
  have hm : moves e = false := by simp [moves, h2]
  refine ⟨?_, fun c hl => ?_, fun c hl => ?_⟩
  · rw [List.length_append, I.len]; simp [List.countP_append, h2]
  · by_cases he : c = ch.length
    · subst he
      have := I.few ch.length (Nat.le_refl _)
      unfold ins
      rw [if_neg (by simp [hc]), hm, this]
      simp [List.getD_eq_getElem?_getD, chOf, in0, h2, hv]
    · have hlt : c < ch.length := by simp at hl; omega
      have ne : e.c ≠ (c : Int) := by omega
      have := I.at_ c hlt
      simp only [ins, ne, ne_eq, not_false_eq_true, if_true]
      refine ⟨?_, this.2⟩
      rw [← this.1]
      simp [List.getD_eq_getElem?_getD, List.getElem?_append_left hlt]
  · have ne : e.c ≠ (c : Int) := by simp at hl; omega
    simp only [ins, ne, ne_eq, not_false_eq_true, if_true]
    exact I.few c (by simp at hl; omega)
theorem moves_k {e : Ev} (h : moves e = true) : e.k = 3 ∨ (e.k = 4 ∧ e.o = true) := by
  unfold moves at h; simpa using h
/-- the three rules of channels, one behind the other -/
theorem chans {p : List Ev} {K : Int → In} {ch : List Chn} (I : IM p K ch) (e : Ev) (f : Fit e) (nx : Option Ev) {ch3 : List Chn} (h3 : r3 ch e = some ch3) :
    (r5 ch3 e nx).isSome = ordered (K e.c) e nx ∧ ∀ ch5, r5 ch3 e nx = some ch5 → (r6 ch5 e).isSome = closedF (K e.c) e ∧ ∀ ch6, r6 ch5 e = some ch6 → IM (p ++ [e]) (fun c => ins (K c) c e nx) ch6 := by
  unfold r3 at h3
  by_cases h2 : e.k = 2
  · rw [if_pos h2] at h3
    by_cases hc : e.c = ch.length
    · rw [if_neg (by simp [hc])] at h3
      cases h3
      have hm : moves e = false := by simp [moves, h2]
      refine ⟨by simp [r5, ordered, hm], fun ch5 h5 => ?_⟩
      simp only [r5, hm] at h5
      cases h5
      refine ⟨by simp [r6, closedF, h2], fun ch6 h6 => ?_⟩
      simp [r6, h2] at h6
      subst h6
      exact I.make e nx h2 hc (f.v h2)
    · rw [if_pos (by simpa using hc)] at h3; cases h3
  rw [if_neg h2] at h3
  by_cases hl : e.c < ch.length
  case neg => rw [if_neg hl] at h3; cases h3
  rw [if_pos hl] at h3
  cases h3
  by_cases hk : e.k = 3 ∨ e.k = 4 ∨ e.k = 5
  · have h0 : 0 ≤ e.c := f.c (by omega)
    have hn : e.c.toNat < ch.length := by omega
    have ce : ((e.c.toNat : Nat) : Int) = e.c := by omega
    have ha := I.at_ _ hn
    rw [ce] at ha
    by_cases hm : moves e = true
    · have hr : r5 ch e nx = if (mov (K e.c) e nx).right then some (ch.set e.c.toNat (chOf (mov (K e.c) e nx))) else none := by
        unfold r5
        rw [if_pos hm, ha.1, r5c_is f ha.2]
        cases (mov (K e.c) e nx).right <;> rfl
      rw [hr]
      refine ⟨?_, fun ch5 h5 => ?_⟩
      · unfold ordered
        rw [if_pos hm]
        cases (mov (K e.c) e nx).right <;> rfl
      · have hx : ch5 = ch.set e.c.toNat (chOf (mov (K e.c) e nx)) := by
          revert h5
          cases (mov (K e.c) e nx).right <;> simp
          intro q; exact q.symm
        have hi : ins (K e.c) e.c e nx = mov (K e.c) e nx := by simp [ins, hm]
        have hg : (ch.set e.c.toNat (chOf (mov (K e.c) e nx))).getD e.c.toNat chz = chOf (mov (K e.c) e nx) := by simp [List.getD_eq_getElem?_getD, hn]
        have hcl : (chOf (mov (K e.c) e nx)).cl = (K e.c).closed := mov_closed _ _ _
        have IMs := I.set e nx h2 h0 hl (chOf (mov (K e.c) e nx)) (by rw [hi])
        subst hx
        rcases moves_k hm with k3 | ⟨k4, ko⟩
        · have hr6 : r6 (ch.set e.c.toNat (chOf (mov (K e.c) e nx))) e = if (K e.c).closed then none else some (ch.set e.c.toNat (chOf (mov (K e.c) e nx))) := by
            unfold r6; simp only [hg, hcl]; simp [k3]
          rw [hr6]
          refine ⟨by simp [closedF, k3]; cases (K e.c).closed <;> rfl, fun ch6 h6 => ?_⟩
          revert h6
          cases (K e.c).closed <;> simp
          intro q; subst q; exact IMs
        · have hr6 : r6 (ch.set e.c.toNat (chOf (mov (K e.c) e nx))) e = if e.m = -1 ∨ (K e.c).closed = false then some (ch.set e.c.toNat (chOf (mov (K e.c) e nx))) else none := by
            unfold r6; simp only [hg, hcl]; simp [k4, ko]
          rw [hr6]
          refine ⟨?_, fun ch6 h6 => ?_⟩
          · have := f.m
            by_cases hmm : e.m = -1
            · simp [closedF, k4, ko, hmm]
            · have : ¬ (e.m < 0) := by omega
              simp only [closedF, k4, ko, hmm, this]
              cases (K e.c).closed <;> simp
          · split at h6
            · cases h6; exact IMs
            · cases h6
    · have hm : moves e = false := by simpa using hm
      refine ⟨by simp [r5, ordered, hm], fun ch5 h5 => ?_⟩
      simp only [r5, hm] at h5
      cases h5
      by_cases k5 : e.k = 5
      · have hr6 : r6 ch e = if (K e.c).closed then none else some (ch.set e.c.toNat ⟨(K e.c).size, (K e.c).L, true⟩) := by
          unfold r6; simp only [ha.1]; rw [if_pos k5]; rfl
        rw [hr6]
        refine ⟨by simp [closedF, k5]; cases (K e.c).closed <;> rfl, fun ch6 h6 => ?_⟩
        have IMs := I.set e nx h2 h0 hl ⟨(K e.c).size, (K e.c).L, true⟩ (by simp [ins, hm, k5, chOf])
        revert h6
        cases (K e.c).closed <;> simp
        intro q; subst q; exact IMs
      · have k4 : e.k = 4 := by
          rcases hk with q | q | q
          · exact absurd hm (by simp [moves, q])
          · exact q
          · exact absurd q k5
        have ko : e.o = false := by simpa [moves, k4] using hm
        have hr6 : r6 ch e = if (K e.c).closed && (K e.c).L.isEmpty then some ch else none := by
          unfold r6; simp only [ha.1]; simp [k4, ko, chOf]
        rw [hr6]
        refine ⟨by simp only [closedF, k4, ko]; cases ((K e.c).closed && (K e.c).L.isEmpty) <;> simp, fun ch6 h6 => ?_⟩
        split at h6
        · cases h6; exact I.rest e nx h2 k5 hm
        · cases h6
  · have n3 : e.k ≠ 3 := fun q => hk (.inl q)
    have n4 : e.k ≠ 4 := fun q => hk (.inr (.inl q))
    have n5 : e.k ≠ 5 := fun q => hk (.inr (.inr q))
    have hm : moves e = false := by simp [moves, n3, n4]
    refine ⟨by simp [r5, ordered, hm], fun ch5 h5 => ?_⟩
    simp only [r5, hm] at h5
    cases h5
    have hcf : closedF (K e.c) e = true := by
      unfold closedF
      rw [if_pos (by omega)]
    refine ⟨by rw [hcf]; simp [r6, n3, n4, n5], fun ch6 h6 => ?_⟩
    simp [r6, n3, n4, n5] at h6
    subst h6
    exact I.rest e nx h2 n5 hm
theorem fit_of {e : Ev} (h : chk e = 0) : Fit e := by
  have hk : ¬ (e.k < 1 ∨ 13 < e.k) := fun q => by simp [chk, q] at h
  have hb : (ff e && okF e) = true := by
    apply Classical.byContradiction
    intro q
    simp [chk, hk, q] at h
  have hf : ff e = true := by revert hb; cases ff e <;> simp
  have ho : okF e = true := by revert hb; rw [hf]; simp
  have o0 := okF_at ho 0 (by decide)
  have o1 := okF_at ho 1 (by decide)
  have o3 := okF_at ho 3 (by decide)
  have o4 := okF_at ho 4 (by decide)
  obtain ⟨k, g, c, a, v, m, s, o⟩ := e
  simp only at hk
  have hc : k = 1 ∨ k = 2 ∨ k = 3 ∨ k = 4 ∨ k = 5 ∨ k = 6 ∨ k = 7 ∨ k = 8 ∨ k = 9 ∨ k = 10 ∨ k = 11 ∨ k = 12 ∨ k = 13 := by omega
  clear h hk hb ho
  rcases hc with rfl | rfl | rfl | rfl | rfl | rfl | rfl | rfl | rfl | rfl | rfl | rfl | rfl <;>
    simp [okA, spn, fl, Ba.nth, inS, ml, mh, ff] at o0 o1 o3 o4 hf <;>
    (try (by_cases ha : a = -1 <;> simp [ha] at o0 o1 o3 o4)) <;>
    exact ⟨fun q => by simp at q ⊢ <;> omega, fun q => by simp at q ⊢ <;> omega, by simp; omega, fun q => by simp at q ⊢ <;> simp_all, fun q => by simp at q ⊢ <;> simp_all, fun q => by simp at q ⊢ <;> omega⟩
/-! All rules, event by event. -/
/-- the channels behind the first n events -/
def inn (l : List Ev) : Nat → Int → In
  | 0, _ => in0
  | n + 1, c => match l[n]? with
    | some e => ins (inn l n c) c e l[n + 1]?
    | none => inn l n c
/-- the rule that the i'th event breaks, the document's; 0: none -/
def ruleD (l : List Ev) (i : Nat) (e : Ev) : Int :=
  if 2000 ≤ i ∨ chk e ≠ 0 then 1
  else if crew (l.take i) e = false then 2
  else if made (l.take i) e = false then 3
  else if served (l.take i).reverse e = false then 4
  else if ordered (inn l i e.c) e l[i + 1]? = false then 5
  else if closedF (inn l i e.c) e = false then 6
  else 0
structure Gs where
  st : List Int
  pn : Bool
  ch : List Chn
  la : Ev
/-- the reader's step: the broken rule, or what it keeps -/
def stepG (s : Gs) (i : Nat) (e : Ev) (nx : Option Ev) : Except Int Gs :=
  if 2000 ≤ i ∨ chk e ≠ 0 then .error 1
  else match r2 s.st s.pn e with
  | none => .error 2
  | some (st, pn) => match r3 s.ch e with
    | none => .error 3
    | some ch3 => match r4 s.la e with
      | none => .error 4
      | some la => match r5 ch3 e nx with
        | none => .error 5
        | some ch5 => match r6 ch5 e with
          | none => .error 6
          | some ch6 => .ok ⟨st, pn, ch6, la⟩
structure IG (l : List Ev) (i : Nat) (s : Gs) : Prop where
  c : IC (l.take i) s.st s.pn
  m : IM (l.take i) (inn l i) s.ch
  s : IS (l.take i).reverse s.la
def gs0 : Gs := ⟨[0], false, [], ev0⟩
theorem IG.nil (l : List Ev) : IG l 0 gs0 := by
  refine ⟨?_, ?_, ?_⟩
  · rw [List.take_zero]; exact IC.nil
  · have : inn l 0 = fun _ => in0 := by funext c; rfl
    rw [this, List.take_zero]; exact IM.nil
  · rw [List.take_zero]; exact IS.nil
theorem stepG_is {l : List Ev} {i : Nat} {e : Ev} {s : Gs} (I : IG l i s) (he : l[i]? = some e) :
    (∃ n, n ≠ 0 ∧ ruleD l i e = n ∧ stepG s i e l[i + 1]? = .error n) ∨ (ruleD l i e = 0 ∧ ∃ s', stepG s i e l[i + 1]? = .ok s' ∧ IG l (i + 1) s') := by
  have ht : l.take (i + 1) = l.take i ++ [e] := by rw [List.take_add_one, he]; rfl
  have hK : inn l (i + 1) = fun c => ins (inn l i c) c e l[i + 1]? := by funext c; simp [inn, he]
  unfold ruleD stepG
  by_cases h1 : 2000 ≤ i ∨ chk e ≠ 0
  · exact .inl ⟨1, by decide, by rw [if_pos h1], by rw [if_pos h1]⟩
  rw [if_neg h1, if_neg h1]
  have f : Fit e := fit_of (by omega)
  have q2 := r2_some I.c e f.g
  cases e2 : r2 s.st s.pn e with
  | none =>
    rw [e2] at q2
    exact .inl ⟨2, by decide, if_pos (by rw [← q2]; rfl), rfl⟩
  | some sp =>
  obtain ⟨st, pn⟩ := sp
  have c2 := r2_keeps I.c e f.g e2
  rw [e2] at q2
  rw [if_neg (by rw [← q2]; simp)]
  have q3 := r3_some I.m e
  cases e3 : r3 s.ch e with
  | none =>
    rw [e3] at q3
    exact .inl ⟨3, by decide, if_pos (by rw [← q3]; rfl), rfl⟩
  | some ch3 =>
  rw [e3] at q3
  rw [if_neg (by rw [← q3]; simp)]
  have q4 := r4_some I.s e
  cases e4 : r4 s.la e with
  | none =>
    rw [e4] at q4
    exact .inl ⟨4, by decide, if_pos (by rw [← q4]; rfl), rfl⟩
  | some la =>
  have c4 := r4_keeps I.s e f e4
  rw [e4] at q4
  rw [if_neg (by rw [← q4]; simp)]
  obtain ⟨q5, c5⟩ := chans I.m e f l[i + 1]? e3
  cases e5 : r5 ch3 e l[i + 1]? with
  | none =>
    rw [e5] at q5
    exact .inl ⟨5, by decide, if_pos (by rw [← q5]; rfl), by simp only [e5]⟩
  | some ch5 =>
  rw [e5] at q5
  rw [if_neg (by rw [← q5]; simp)]
  obtain ⟨q6, c6⟩ := c5 _ e5
  cases e6 : r6 ch5 e with
  | none =>
    rw [e6] at q6
    exact .inl ⟨6, by decide, if_pos (by rw [← q6]; rfl), by simp only [e5, e6]⟩
  | some ch6 =>
  rw [e6] at q6
  rw [if_neg (by rw [← q6]; simp)]
  refine .inr ⟨rfl, _, by simp only [e5, e6]; rfl, ⟨?_, ?_, ?_⟩⟩
  · rw [ht]; exact c2
  · rw [ht, hK]; exact c6 _ e6
  · rw [ht, List.reverse_append]; exact c4
/-- what is owed at the end -/
theorem IG.owed {l : List Ev} {s : Gs} (I : IG l l.length s) : owed s.la = l.getLast?.any serves := by
  have := I.s.ow
  rw [List.take_length, List.head?_reverse] at this
  exact this
end Gu
end Go.Proofs.YtakbbhngcdccpaaGreat
