/- Package pew: who waits, as a chain of seats in memory, with its footprint. -/
import Derived.Test.YtdcmlimglajpkaaFa
namespace Go.Proofs.Ytdcmlimglajpkaa
open Go.ChangeShapes Go.WideShapes Go.ChangeAt Go.RowKit
namespace Pe
open Ba

/-- a waiter -/
structure Wt where
  g : Int
  c : Int
  v : Int
def pt (o : Option Nat) : Value := .pointer (o.map fun b => ⟨b, 0, none⟩)
/-- the seat of x lies in block b -/
def Sc (w : World) (b : Nat) (x : Wt) (nx : Option Nat) : Prop :=
  w.heap[b]? = some (.cells #[.int .i64 x.g, .int .i64 x.c, .int .i64 x.v, pt nx] 118 (0, 0))
/-- from o to e there are just the seats l -/
def Ch (w : World) : Option Nat → List (Nat × Wt) → Option Nat → Prop
  | o, [], e => o = e
  | o, n :: t, e => o = some n.1 ∧ ∃ nx, Sc w n.1 n.2 nx ∧ Ch w nx t e
def Hd (w : World) (P : Nat) (f l : Option Nat) (n : Nat) : Prop :=
  w.heap[P]? = some (.cells #[pt f, pt l, .int .i64 (n : Int)] 116 (0, 0))
def lst (l : List (Nat × Wt)) : Option Nat := l.getLast?.map (·.1)
/-- the pew in block P, of the seats l -/
def Pn (w : World) (P : Nat) (l : List (Nat × Wt)) : Prop :=
  ∃ f, Hd w P f (lst l) l.length ∧ Ch w f l none ∧ (l.map (·.1)).Nodup ∧ (∀ n ∈ l, P < n.1) ∧ l.length ≤ 1024
/-- the pew in block P, of the waiters ws -/
def Pw (w : World) (P : Nat) (ws : List Wt) : Prop := ∃ l : List (Nat × Wt), l.map (·.2) = ws ∧ Pn w P l

theorem Sc.set {w : World} {b : Nat} {x : Wt} {nx : Option Nat} (h : Sc w b x nx) (e : Option Nat) : Sc (w.setCell ⟨b, 3, none⟩ (pt e)) b x e := (Ba.heap_setCell_same h _).trans rfl
theorem Sc.other {w : World} {b q i : Nat} {x : Wt} {nx : Option Nat} (h : Sc w b x nx) (v : Value) (hq : b ≠ q) : Sc (w.setCell ⟨q, i, none⟩ v) b x nx := (Below.heap_setCell _ _ _ _ hq).trans h
theorem Hd.setF {w : World} {P : Nat} {f l : Option Nat} {n : Nat} (h : Hd w P f l n) (e : Option Nat) : Hd (w.setCell ⟨P, 0, none⟩ (pt e)) P e l n := (Ba.heap_setCell_same h _).trans rfl
theorem Hd.setL {w : World} {P : Nat} {f l : Option Nat} {n : Nat} (h : Hd w P f l n) (e : Option Nat) : Hd (w.setCell ⟨P, 1, none⟩ (pt e)) P f e n := (Ba.heap_setCell_same h _).trans rfl
theorem Hd.setN {w : World} {P : Nat} {f l : Option Nat} {n : Nat} (h : Hd w P f l n) (m : Nat) (x : Int) (hx : x = (m : Int)) : Hd (w.setCell ⟨P, 2, none⟩ (.int .i64 x)) P f l m := by
  subst hx
  exact (Ba.heap_setCell_same h _).trans rfl
theorem Hd.other {w : World} {P q i : Nat} {f l : Option Nat} {n : Nat} (h : Hd w P f l n) (v : Value) (hq : P ≠ q) : Hd (w.setCell ⟨q, i, none⟩ v) P f l n := (Below.heap_setCell _ _ _ _ hq).trans h
theorem Ch.mono {w w' : World} : ∀ {l : List (Nat × Wt)} {o e : Option Nat}, Ch w o l e → (∀ n ∈ l, ∀ c t fr, w.heap[n.1]? = some (.cells c t fr) → t = 118 → w'.heap[n.1]? = some (.cells c t fr)) → Ch w' o l e
  | [], _, _, h, _ => h
  | n :: _, _, _, ⟨h1, nx, h2, h3⟩, hf => ⟨h1, nx, hf n (List.mem_cons_self ..) _ _ _ h2 rfl, Ch.mono h3 fun m hm => hf m (List.mem_cons_of_mem _ hm)⟩
theorem Ch.set {w : World} {l : List (Nat × Wt)} {o e : Option Nat} {q i : Nat} (h : Ch w o l e) (v : Value) (hq : ∀ n ∈ l, n.1 ≠ q) : Ch (w.setCell ⟨q, i, none⟩ v) o l e :=
  h.mono fun n hn _ _ _ hc _ => (Below.heap_setCell _ _ _ _ (hq n hn)).trans hc
theorem Ch.below {w w' : World} {l : List (Nat × Wt)} {o e : Option Nat} (h : Ch w o l e) (hb : Below w.heap.size w w') : Ch w' o l e :=
  h.mono fun _ _ _ _ _ hc _ => heap_below hc hb
theorem Ch.app {w : World} : ∀ {l m : List (Nat × Wt)} {o e : Option Nat}, Ch w o (l ++ m) e ↔ ∃ mid, Ch w o l mid ∧ Ch w mid m e
  | [], m, o, e => ⟨fun h => ⟨o, rfl, h⟩, fun ⟨mid, h1, h2⟩ => by cases h1; exact h2⟩
  | n :: t, m, o, e => by
    constructor
    · rintro ⟨h1, nx, h2, h3⟩
      obtain ⟨mid, h4, h5⟩ := Ch.app.1 h3
      exact ⟨mid, ⟨h1, nx, h2, h4⟩, h5⟩
    · rintro ⟨mid, ⟨h1, nx, h2, h4⟩, h5⟩
      exact ⟨h1, nx, h2, Ch.app.2 ⟨mid, h4, h5⟩⟩
theorem Ch.relast {w : World} {l : List (Nat × Wt)} {n : Nat × Wt} {o e : Option Nat} (h : Ch w o (l ++ [n]) e) (hn : ∀ m ∈ l, m.1 ≠ n.1) (e' : Option Nat) : Ch (w.setCell ⟨n.1, 3, none⟩ (pt e')) o (l ++ [n]) e' := by
  obtain ⟨mid, h1, h2, nx, h3, h4⟩ := Ch.app.1 h
  exact Ch.app.2 ⟨mid, h1.set _ hn, h2, e', h3.set e', rfl⟩
theorem Ch.sc {w : World} {l : List (Nat × Wt)} {n : Nat × Wt} {o e : Option Nat} (h : Ch w o (l ++ [n]) e) : Sc w n.1 n.2 e := by
  obtain ⟨mid, h1, h2, nx, h3, h4⟩ := Ch.app.1 h
  cases h4
  exact h3
theorem lst_app (l : List (Nat × Wt)) (n : Nat × Wt) : lst (l ++ [n]) = some n.1 := by simp [lst]
theorem lst_nil : lst [] = none := rfl
theorem Pn.below {w w' : World} {P : Nat} {l : List (Nat × Wt)} (h : Pn w P l) (hb : Below w.heap.size w w') : Pn w' P l := by
  obtain ⟨f, h1, h2, h3⟩ := h
  exact ⟨f, heap_below h1 hb, h2.below hb, h3⟩
theorem Pw.below {w w' : World} {P : Nat} {l : List Wt} (h : Pw w P l) (hb : Below w.heap.size w w') : Pw w' P l := by
  obtain ⟨m, e, h⟩ := h
  exact ⟨m, e, h.below hb⟩
theorem Pw.kbz {w w' : World} {P z : Nat} {l : List Wt} {c : Array Value} {t : TypeId} {fr : Nat × Nat} (h : Pw w P l) (k : KB z w w') (hz : w.heap[z]? = some (.cells c t fr)) (ht : t ≠ 118) (hP : P ≠ z) : Pw w' P l := by
  obtain ⟨m, em, f, g1, g2, g3⟩ := h
  exact ⟨m, em, f, k.heap g1 hP, g2.mono (fun n _ c' t' fr' hc ht' => k.heap hc (by
    intro e
    rw [e, hz] at hc
    cases hc
    exact ht ht')), g3⟩
theorem Pw.lt {w : World} {P : Nat} {l : List Wt} (h : Pw w P l) : P < w.heap.size := by
  obtain ⟨m, em, f, g1, g2, g3⟩ := h
  exact heap_lt g1
theorem Pw.le {w : World} {P : Nat} {l : List Wt} (h : Pw w P l) : l.length ≤ 1024 := by
  obtain ⟨m, em, f, g1, g2, g3, g4, g5⟩ := h
  rw [← em, List.length_map]
  exact g5
theorem Pw.nil {w : World} {P : Nat} (h : Hd w P none none 0) : Pw w P [] := ⟨[], rfl, none, h, rfl, List.nodup_nil, fun _ h => by simp at h, Nat.zero_le _⟩
/-- the pew in block P, of the waiters ws, inside F -/
def PF (w : World) (P : Nat) (F : Nat → Prop) (ws : List Wt) : Prop := ∃ l : List (Nat × Wt), l.map (·.2) = ws ∧ Pn w P l ∧ (∀ n ∈ l, F n.1) ∧ F P ∧ Bd F w
theorem PF.pw {w : World} {P : Nat} {F : Nat → Prop} {ws : List Wt} (h : PF w P F ws) : Pw w P ws := by
  obtain ⟨l, e, h1, _⟩ := h
  exact ⟨l, e, h1⟩
theorem PF.bd {w : World} {P : Nat} {F : Nat → Prop} {ws : List Wt} (h : PF w P F ws) : Bd F w := by
  obtain ⟨l, e, h1, h2, h3, h4⟩ := h
  exact h4
theorem PF.own {w : World} {P : Nat} {F : Nat → Prop} {ws : List Wt} (h : PF w P F ws) : F P := by
  obtain ⟨l, e, h1, h2, h3, h4⟩ := h
  exact h3
theorem PF.sm {w w' : World} {P : Nat} {F : Nat → Prop} {ws : List Wt} (h : PF w P F ws) (s : Sm F w w') : PF w' P F ws := by
  obtain ⟨l, e, ⟨f, h1, h2, h3⟩, g1, g2, g3⟩ := h
  exact ⟨l, e, ⟨f, s.heap g2 h1, h2.mono fun n hn c t fr hc _ => s.heap (g1 n hn) hc, h3⟩, g1, g2, g3.sm s⟩
theorem PF.below {w w' : World} {P : Nat} {F : Nat → Prop} {ws : List Wt} (h : PF w P F ws) (hb : Below w.heap.size w w') : PF w' P F ws := h.sm (Sm.below hb h.bd)
theorem PF.kf {w w' : World} {P : Nat} {F G : Nat → Prop} {ws : List Wt} (h : PF w P F ws) (k : KF G w w') (hd : ∀ x, F x → ¬ G x) : PF w' P F ws := h.sm (Sm.kf k h.bd hd)
theorem PF.lt {w : World} {P : Nat} {F : Nat → Prop} {ws : List Wt} (h : PF w P F ws) : P < w.heap.size := h.pw.lt
theorem PF.le {w : World} {P : Nat} {F : Nat → Prop} {ws : List Wt} (h : PF w P F ws) : ws.length ≤ 1024 := h.pw.le
/-- one more at the end -/
theorem Pn.added {w : World} {P b : Nat} {f : Option Nat} {l : List (Nat × Wt)} {x : Wt} (h1 : Hd w P f (some b) (l.length + 1)) (h2 : Ch w f l (some b)) (h3 : Sc w b x none) (h4 : (l.map (·.1)).Nodup) (h5 : ∀ n ∈ l, P < n.1) (h6 : l.length < 1024) (h7 : ∀ n ∈ l, n.1 ≠ b) (h8 : P < b) : Pn w P (l ++ [(b, x)]) := by
  refine ⟨f, ?_, Ch.app.2 ⟨some b, h2, rfl, none, h3, rfl⟩, ?_, ?_, ?_⟩
  · rw [lst_app, List.length_append]
    exact h1
  · rw [List.map_append, List.nodup_append]
    refine ⟨h4, by simp, ?_⟩
    intro a ha c hc
    simp at hc
    subst hc
    obtain ⟨n, hn, rfl⟩ := List.mem_map.1 ha
    exact h7 n hn
  · intro n hn
    rcases List.mem_append.1 hn with q | q
    · exact h5 n q
    · simp at q
      subst q
      exact h8
  · rw [List.length_append]
    simp
    omega
end Pe
end Go.Proofs.Ytdcmlimglajpkaa
