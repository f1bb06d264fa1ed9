/- Each run's trace keeps all rules, and each beginning of it; loom.Run with that, over this seat's program. -/
import Derived.Test.YtkkgbeaaekmhfaaGreatZjGl12
import Derived.Test.YtkkgbeaaekmhfaaGreatQr8
namespace Go.Proofs.YtkkgbeaaekmhfaaGreat
open Go.ChangeShapes Go.WideShapes Go.ChangeAt Go.RowKit
namespace Gu
open En
theorem Acc.ig : ∀ {es : List Ev} {gs g' : Gs} {i : Nat}, Acc gs i es g' → ∀ (l : List Ev), IG l i gs → l.drop i = es → IG l (i + es.length) g'
  | [], gs, g', i, h, l, I, _ => by
    have : g' = gs := h
    subst this
    exact I
  | e :: es, gs, g', i, h, l, I, hd => by
    obtain ⟨g1, h1, -, h3⟩ := h
    have he : l[i]? = some e := by
      have := congrArg List.head? hd
      simpa using this
    have hr : l.drop (i + 1) = es := by
      have := congrArg List.tail hd
      simpa using this
    have hn : l[i + 1]? = es.head? := by rw [← hr]; simp
    have hg := h1 es.head? (fun _ => rfl)
    rw [← hn] at hg
    rcases stepG_is I he with ⟨n, _, _, q⟩ | ⟨_, s', q, I'⟩
    · rw [hg] at q; cases q
    · rw [hg] at q
      cases q
      have := h3.ig l I' hr
      have e2 : i + 1 + es.length = i + (e :: es).length := by simp; omega
      rw [e2] at this
      exact this
/-- a whole run's trace -/
def TrOK (l : List Ev) : Prop := l.length ≤ 1300 ∧ (∃ g, Acc gs0 0 l g) ∧ l.getLast?.any serves = false
theorem TrOK.nil : TrOK [] := ⟨Nat.zero_le _, ⟨gs0, rfl⟩, rfl⟩
theorem TrOK.pre {l : List Ev} (h : TrOK l) (n : Nat) : Chk (l.take n) (if (l.take n).getLast?.any serves = true then 4 else 0) (if (l.take n).getLast?.any serves = true then ((l.take n).length : Int) else 0) := by
  obtain ⟨_, ⟨g, hg⟩, _⟩ := h
  exact hg.chk n
theorem TrOK.all {l : List Ev} (h : TrOK l) : Chk l 0 0 := by
  have := h.pre l.length
  rw [List.take_length, h.2.2] at this
  simpa using this
end Gu
namespace Lo
open Ba
theorem run_ok {sc : Sh.Sc} (hs : Sh.schk sc = 0) : Gu.TrOK (runF sc).tr := by
  have h200 : sc.pl.length ≤ 200 := (schk_ok hs).2.2.1
  obtain ⟨gs, h⟩ := RI.steps hs sc.pl.length
  have h1 := (run_acc hs sc.pl.length (by omega)).1
  have ha := h.acc.acc (i := 0) (EI.steps hs sc.pl.length).1.tr (by omega)
  refine ⟨h1, ⟨gs, ha⟩, ?_⟩
  have ig := ha.ig (stepsF sc.pl.length (newS sc)).tr (Gu.IG.nil _) (by simp)
  rw [Nat.zero_add] at ig
  exact ig.owed.symm.trans h.gi.ow
/-- what Run hands back -/
def RnP (w : World) (r : Ending) (w' : World) : Prop := ∃ (ob : Option Addr) (l : List Ev) (d : Nat) (v : Int), r = .returned (.tuple #[.slice ob l.length d, .int .i64 v]) ∧ Gu.EsAt w' ob l ∧ l.length ≤ d ∧ Gu.TrOK l ∧ Below w.heap.size w w'
theorem run_x (T M : Int) (ps : List (List OpD)) (pl dr : List Int) (pa la da : Option Addr) (pc lc dc : Nat) (w : World) (hS : Sh.SAt w ⟨T, M, ps, pl, dr⟩ pa la da) :
    Calls Tryz.prog 8 #[.agg #[.int .i64 T, .int .i64 M, .slice pa ps.length pc, .slice la pl.length lc, .slice da dr.length dc]] w fun r w' => RnP w r w' := by
  by_cases hs : Sh.schk ⟨T, M, ps, pl, dr⟩ = 0
  · refine (run_yes T M ps pl dr pa la da pc lc dc w hS hs _ rfl).mono ?_
    rintro r w' ⟨ob, d, rfl, es, ⟨hd, -⟩, b⟩
    exact ⟨ob, _, d, _, rfl, es, hd, run_ok hs, b⟩
  · refine (run_no T M ps pl dr pa la da pc lc dc w hS hs).mono ?_
    rintro r w' ⟨rfl, b⟩
    exact ⟨none, [], 0, 0, rfl, Gu.EsAt.nil _ _, Nat.le_refl _, Gu.TrOK.nil, b⟩
end Lo
end Go.Proofs.YtkkgbeaaekmhfaaGreat
