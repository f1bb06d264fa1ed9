/- A run's trace with an event twice: what is answered of it; loom.Run with that; events appended, over this seat's program. -/
import Derived.Test.YtkkgbeaaekmhfaaGreatZjGl12
import Derived.Test.YtkkgbeaaekmhfaaGreatQrb
namespace Go.Proofs.YtkkgbeaaekmhfaaGreat
open Go.ChangeShapes Go.WideShapes Go.ChangeAt Go.RowKit
namespace Gu
open En
/-- a run's trace, with what its reader keeps -/
def TrO2 (l : List Ev) : Prop := l.length ≤ 1300 ∧ (∀ e ∈ l, chk e = 0) ∧ ∃ g, AccH gs0 l g ∧ owed g.la = false
theorem cut_at {l : List Ev} {k : Nat} {e : Ev} (h : l[k]? = some e) : l = l.take k ++ e :: l.drop (k + 1) ∧ l.take (k + 1) ++ l.drop k = l.take k ++ e :: e :: l.drop (k + 1) := by
  have hk := (List.getElem?_eq_some_iff.1 h).1
  have he := (List.getElem?_eq_some_iff.1 h).2
  have hd : l.drop k = e :: l.drop (k + 1) := by rw [List.drop_eq_getElem_cons hk, he]
  refine ⟨?_, ?_⟩
  · rw [← hd, List.take_append_drop]
  · rw [hd, List.take_add_one, h]
    simp
theorem TrO2.loud {l : List Ev} (h : TrO2 l) {k : Nat} {e : Ev} (hk : l[k]? = some e) (hl : Gu.loud e) {a b : Int} (hc : Chk (l.take (k + 1) ++ l.drop k) a b) : a ≠ 0 ∧ b ≤ (k : Int) + 1 := by
  obtain ⟨h1, h2, g, h3, -⟩ := h
  obtain ⟨e1, e2⟩ := cut_at hk
  have hkl := (List.getElem?_eq_some_iff.1 hk).1
  have htl : (l.take k).length = k := by rw [List.length_take]; omega
  rw [e1] at h3
  obtain ⟨j, x, hj, hx, hr⟩ := h3.spoil (i := 0) hl (h2 e (List.mem_of_getElem? hk)) (fun x hx => h2 x (List.mem_of_mem_take hx)) (l.take (k + 1) ++ l.drop k) (IG.nil _) (by simpa using e2) (by rw [htl]; omega)
  rw [htl] at hj
  rcases hc with ⟨i, y, hy, hn, rfl, rfl, hall⟩ | ⟨hall, _⟩
  · refine ⟨hn, ?_⟩
    by_cases q : j < i
    · exact absurd (hall j q x hx) hr
    · omega
  · exact absurd (hall j x hx) hr
theorem TrO2.quiet {l : List Ev} (h : TrO2 l) {k : Nat} {e : Ev} (hk : l[k]? = some e) (hq : Gu.quiet e) : Chk (l.take (k + 1) ++ l.drop k) 0 0 := by
  obtain ⟨h1, h2, g, h3, h4⟩ := h
  obtain ⟨e1, e2⟩ := cut_at hk
  have hkl := (List.getElem?_eq_some_iff.1 hk).1
  have hlen : (l.take (k + 1) ++ l.drop k).length ≤ 1301 := by simp; omega
  rw [e1] at h3
  have h5 := h3.dup hq
  rw [← e2] at h5
  have h6 := h5.acc (i := 0) (fun x hx => by
    rcases List.mem_append.1 hx with q | q
    · exact h2 x (List.mem_of_mem_take q)
    · exact h2 x (List.mem_of_mem_drop q)) (by omega)
  have ig := h6.ig (l.take (k + 1) ++ l.drop k) (IG.nil _) (by simp)
  rw [Nat.zero_add] at ig
  have hs : (l.take (k + 1) ++ l.drop k).getLast?.any serves = false := ig.owed.symm.trans h4
  have := h6.chk (l.take (k + 1) ++ l.drop k).length
  rw [List.take_length, hs] at this
  simpa using this
end Gu
namespace Lo
open Ba
theorem run_ok2 {sc : Sh.Sc} (hs : Sh.schk sc = 0) : Gu.TrO2 (runF sc).tr := by
  have h200 : sc.pl.length ≤ 200 := (schk_ok hs).2.2.1
  obtain ⟨gs, h⟩ := RI.steps hs sc.pl.length
  exact ⟨(run_acc hs sc.pl.length (by omega)).1, (EI.steps hs sc.pl.length).1.tr, gs, h.acc, h.gi.ow⟩
def RnP2 (w : World) (r : Ending) (w' : World) : Prop := ∃ (ob : Option Addr) (l : List Ev) (d : Nat) (v : Int), r = .returned (.tuple #[.slice ob l.length d, .int .i64 v]) ∧ Gu.EsAt w' ob l ∧ l.length ≤ d ∧ Gu.TrO2 l ∧ Below w.heap.size w w'
theorem run_x2 (T M : Int) (ps : List (List OpD)) (pl dr : List Int) (pa la da : Option Addr) (pc lc dc : Nat) (w : World) (hS : Sh.SAt w ⟨T, M, ps, pl, dr⟩ pa la da) :
    Calls Tryz.prog 8 #[.agg #[.int .i64 T, .int .i64 M, .slice pa ps.length pc, .slice la pl.length lc, .slice da dr.length dc]] w fun r w' => RnP2 w r w' := by
  by_cases hs : Sh.schk ⟨T, M, ps, pl, dr⟩ = 0
  · refine (run_yes T M ps pl dr pa la da pc lc dc w hS hs _ rfl).mono ?_
    rintro r w' ⟨ob, d, rfl, es, ⟨hd, -⟩, b⟩
    exact ⟨ob, _, d, _, rfl, es, hd, run_ok2 hs, b⟩
  · refine (run_no T M ps pl dr pa la da pc lc dc w hS hs).mono ?_
    rintro r w' ⟨rfl, b⟩
    exact ⟨none, [], 0, 0, rfl, Gu.EsAt.nil _ _, Nat.le_refl _, ⟨Nat.zero_le _, (fun e h => by cases h), Gu.gs0, rfl, by decide⟩, b⟩
theorem info_ev2 : ∃ i0, Tryz.prog.info? 35 = some i0 ∧ i0.zero = some (.agg #[.int .i64 0, .int .i64 0, .int .i64 0, .int .i64 0, .int .i64 0, .int .i64 0, .bool false, .bool false]) ∧ i0.size = 8 ∧ i0.bytes = 56 := by
  cases hi : Tryz.prog.info? 35 with
  | none => have := info_ev; rw [hi] at this; cases this
  | some i0 =>
    have hx := info_ev
    rw [hi] at hx
    simp at hx
    exact ⟨i0, rfl, hx⟩
/-- a list of events is appended to an own one -/
theorem app_es (w : World) (base : Nat) (ea : Option Addr) (n c : Nat) (l fs : List Ev) (m b o cc : Nat) (hm : m = fs.length) (hown : w.ownsRow base 35 8 (.slice ea n c) n (ec l)) (hA : Gu.EsAt w (some ⟨b, o, none⟩) fs) (hl : n + m ≤ 100000) (hb : base ≤ w.heap.size) :
    ∃ ea' c' w', (Builtin.append_ #[28, 28] 28 #[.slice ea n c, .slice (some ⟨b, o, none⟩) m cc]).run Tryz.prog w = .ok (.slice ea' (n + m) c') w' ∧ w'.ownsRow base 35 8 (.slice ea' (n + m) c') (n + m) (ec (l ++ fs)) ∧ Below base w w' := by
  obtain ⟨i0, hi, hz, hs, hby⟩ := info_ev2
  have hnews : ∀ j u, (ec fs)[j]? = some u → w.cell? ((⟨b, o, none⟩ : Addr).add j) = some u := fun j u hj => by
    obtain ⟨b', o', e, hc⟩ := es_cs (l := fs) (fun k e hk => hA k e hk) j u hj
    cases e
    rw [Addr.add_lit]
    exact hc
  obtain ⟨v', w', hr, ho, hg, _, _⟩ := run_append_own_at (P := Tryz.prog) w base 28 28 35 i0 _ 8 56 Tryz.underlying28 hi hz hs hby rfl (by decide) _ _ _ hown ⟨b, o, none⟩ m cc (ec fs) (by rw [ec_len, hm]) hnews (ec_one _) (by unfold maxLen; omega) (by omega) hb
  rw [← ec_app] at ho
  obtain ⟨ea', c', rfl⟩ := own_sl ho
  refine ⟨ea', c', w', hr, ho, hg.os, hg.tape, hg.output, hg.size, fun k hk => hg.block k (by omega) (fun q => ?_)⟩
  rcases hown.2 with ⟨z, _⟩ | ⟨g, cap, cur, z, hbg, _⟩
  · rw [z] at q
    simp [Value.ownBlock] at q
  · rw [z] at q
    simp [Value.ownBlock] at q
    omega
end Lo
end Go.Proofs.YtkkgbeaaekmhfaaGreat
