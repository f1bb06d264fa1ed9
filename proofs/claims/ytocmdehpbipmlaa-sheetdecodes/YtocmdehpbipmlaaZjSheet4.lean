import Derived.Test.YtocmdehpbipmlaaZjSheet3
import Derived.Shelf.Strings.BuilderK
import Derived.Laws.CopyRow
import Derived.Laws.IdiomCopy
/- Scripts in memory; package sheet: between, allBetween, isLong, areRight, over this seat's program. -/
namespace Go.Proofs.Ytocmdehpbipmlaa
open Go.ChangeShapes Go.WideShapes Go.ChangeAt Go.RowKit
namespace Sh
open De Ba Re

/-- the cells from oa on hold operations -/
def OAt (w : World) (oa : Option Addr) (l : List OpD) : Prop :=
  ∀ k o, l[k]? = some o → ∃ b off ca cc, oa = some ⟨b, off, none⟩ ∧ (w.cell? ⟨b, off + k * 5, none⟩ = some (.int .i64 o.kind) ∧ w.cell? ⟨b, off + k * 5 + 1, none⟩ = some (.int .i64 o.a) ∧ w.cell? ⟨b, off + k * 5 + 2, none⟩ = some (.int .i64 o.b) ∧ w.cell? ⟨b, off + k * 5 + 3, none⟩ = some (.slice ca o.cases.length cc) ∧ w.cell? ⟨b, off + k * 5 + 4, none⟩ = some (.bool o.def_)) ∧ CAt w ca o.cases ∧ o.cases.length ≤ maxLen
theorem cellB {w w' : World} {a : Addr} {v : Value} (h : w.cell? a = some v) (hb : Below w.heap.size w w') : w'.cell? a = some v := (hb.cell (World.block_lt_of_cell? w _ h)).trans h
theorem OAt.below {w w' : World} {oa : Option Addr} {l : List OpD} (h : OAt w oa l) (hb : Below w.heap.size w w') : OAt w' oa l := by
  intro k o hk
  obtain ⟨b, off, ca, cc, he, ⟨h0, h1, h2, h3, h4⟩, hc, hm⟩ := h k o hk
  exact ⟨b, off, ca, cc, he, ⟨cellB h0 hb, cellB h1 hb, cellB h2 hb, cellB h3 hb, cellB h4 hb⟩, hc.below hb, hm⟩
theorem OAt.nil (w : World) (oa : Option Addr) : OAt w oa [] := fun _ _ hk => by simp at hk
/-- the cells from oa on hold programs -/
def PAt (w : World) (oa : Option Addr) (l : List (List OpD)) : Prop :=
  ∀ k p, l[k]? = some p → ∃ b off pa pc, oa = some ⟨b, off, none⟩ ∧ w.cell? ⟨b, off + k, none⟩ = some (.slice pa p.length pc) ∧ OAt w pa p ∧ p.length ≤ maxLen
theorem PAt.below {w w' : World} {oa : Option Addr} {l : List (List OpD)} (h : PAt w oa l) (hb : Below w.heap.size w w') : PAt w' oa l := by
  intro k p hk
  obtain ⟨b, off, pa, pc, he, h0, h1, h2⟩ := h k p hk
  exact ⟨b, off, pa, pc, he, cellB h0 hb, h1.below hb, h2⟩
theorem PAt.nil (w : World) (oa : Option Addr) : PAt w oa [] := fun _ _ hk => by simp at hk

theorem between_any (n lo hi : Int) (w : World) :
    Calls Try.prog 42 #[.int .i64 n, .int .i64 lo, .int .i64 hi] w fun r w' => r = .returned (.bool (decide (lo ≤ n) && decide (n ≤ hi))) ∧ w' = w := by
  cases h : decide (lo ≤ n)
  · go_enter Try.func42, Try.ntmps42
    go_wp2_with fail
    go_ret
    exact ⟨rfl, rfl⟩
  · go_enter Try.func42, Try.ntmps42
    go_wp2_with fail
    go_ret
    exact ⟨rfl, rfl⟩

/-- all from lo to hi -/
def ab (lo hi : Int) (l : List Int) : Bool := l.all fun x => decide (lo ≤ x) && decide (x ≤ hi)
theorem ab_iff (lo hi : Int) (l : List Int) : ab lo hi l = true ↔ ∀ x ∈ l, lo ≤ x ∧ x ≤ hi := by
  simp [ab]
theorem ab_nth {lo hi : Int} {l : List Int} : ab lo hi l = true ↔ ∀ k, k < l.length → lo ≤ nth l k ∧ nth l k ≤ hi := by
  rw [ab_iff]
  constructor
  · intro h k hk
    rw [nth_lt l k hk]
    exact h _ (List.getElem_mem hk)
  · intro h x hx
    obtain ⟨k, hk, rfl⟩ := List.mem_iff_getElem.1 hx
    rw [← nth_lt l k hk]
    exact h k hk
set_option maxHeartbeats 1600000 in
theorem all_any (oa : Option Addr) (l : List Int) (c : Nat) (lo hi : Int) (w : World) (hA : At w oa l) (hl : l.length ≤ maxLen) :
    Calls Try.prog 45 #[.slice oa l.length c, .int .i64 lo, .int .i64 hi] w fun r w' => r = .returned (.bool (ab lo hi l)) ∧ w' = w := by
  have HA := hide hA
  clear hA
  unfold maxLen at hl
  go_enter Try.func45, Try.ntmps45
  go_wp2_with fail
  go_loop [11] (fun i => ∃ k : Nat, k ≤ l.length ∧ i = .int .i64 k ∧ ∀ j, j < k → lo ≤ nth l j ∧ nth l j ≤ hi) (fun i => l.length - (intOf i).toNat)
  case atStart => exact ⟨0, Nat.zero_le _, rfl, fun j hj => absurd hj (Nat.not_lt_zero _)⟩
  case round =>
    obtain ⟨k, hk, rfl, hall⟩ := hrel
    have HE := hide hall
    clear hall
    by_cases hlt : k < l.length
    · obtain ⟨b1, o1, rfl, hc1⟩ := HA.out k hlt
      have hlt' : (k : Int) < (l.length : Int) := by omega
      cases h1 : (decide (lo ≤ nth l k) && decide (nth l k ≤ hi))
      · have HX : Hid (ab lo hi l = false) := by
          show _ = _
          simp at h1
          rw [← Bool.not_eq_true]
          intro e
          have := ab_nth.1 e k hlt
          omega
        go_wp2_with fail
        refine (between_any _ _ _ _).mono ?_
        rw [h1]
        rintro r w1 ⟨rfl, rfl⟩
        go_wp2_with fail
        go_ret
        exact ⟨ret_bool HX.out.symm, rfl⟩
      · have HX : Hid (lo ≤ nth l k ∧ nth l k ≤ hi) := by show _ ∧ _; simpa using h1
        go_wp2_with fail
        refine (between_any _ _ _ _).mono ?_
        rw [h1]
        rintro r w1 ⟨rfl, rfl⟩
        go_wp2_with fail
        go_round
        case rel => exact ⟨k + 1, by omega, by go_num, fun j hj => by
          by_cases e : j = k
          · subst e; exact HX.out
          · exact HE.out j (by omega)⟩
        case measure => simp [intOf]; omega
    · have HX : Hid (ab lo hi l = true) := ab_nth.2 fun j hj => HE.out j (by omega)
      go_wp2_with fail
      go_ret
      exact ⟨ret_bool HX.out.symm, rfl⟩

theorem sc_cells {w : World} {B : Nat} {v0 v1 v2 v3 v4 : Value} {t : TypeId} (h : w.heap[B]? = some (.cells #[v0, v1, v2, v3, v4] t (0, 0))) : w.cell? ⟨B, 0, none⟩ = some v0 ∧ w.cell? ⟨B, 1, none⟩ = some v1 ∧ w.cell? ⟨B, 2, none⟩ = some v2 ∧ w.cell? ⟨B, 3, none⟩ = some v3 ∧ w.cell? ⟨B, 4, none⟩ = some v4 :=
  ⟨cell_of h 0, cell_of h 1, cell_of h 2, cell_of h 3, cell_of h 4⟩
/-- is there too much of it? -/
def isl (ps : List (List OpD)) (p d : Nat) : Bool := ps.any (fun p => decide (32 < p.length)) || (decide (8 < ps.length) || decide (200 < p) || decide (64 < d))
theorem isl_long {ps : List (List OpD)} {p d k : Nat} {q : List OpD} (hk : ps[k]? = some q) (h : 32 < q.length) : isl ps p d = true := by
  have : ps.any (fun p => decide (32 < p.length)) = true := by
    rw [List.any_eq_true]
    exact ⟨q, List.mem_of_getElem? hk, by simpa using h⟩
  simp [isl, this]
theorem isl_short {ps : List (List OpD)} {p d : Nat} (h : ∀ (k : Nat) (q : List OpD), ps[k]? = some q → q.length ≤ 32) : isl ps p d = (decide (8 < ps.length) || decide (200 < p) || decide (64 < d)) := by
  have : ps.any (fun p => decide (32 < p.length)) = false := by
    rw [List.any_eq_false]
    intro q hq
    obtain ⟨k, hk⟩ := List.mem_iff_getElem?.1 hq
    have := h k q hk
    simp
    omega
  simp [isl, this]
set_option maxHeartbeats 1600000 in
theorem isLong_any (T M : Int) (ps : List (List OpD)) (pl dr : List Int) (pa la da : Option Addr) (pc lc dc : Nat) (w : World) (hP : PAt w pa ps) (h1 : ps.length ≤ maxLen) (h2 : pl.length ≤ maxLen) (h3 : dr.length ≤ maxLen) :
    Calls Try.prog 43 #[.agg #[.int .i64 T, .int .i64 M, .slice pa ps.length pc, .slice la pl.length lc, .slice da dr.length dc]] w fun r w' => r = .returned (.bool (isl ps pl.length dr.length)) ∧ Below w.heap.size w w' := by
  have HP := hide (hP.below (below_alloc w (.cells #[.int .i64 T, .int .i64 M, .slice pa ps.length pc, .slice la pl.length lc, .slice da dr.length dc] 38)))
  have BW := hide (below_alloc w (.cells #[.int .i64 T, .int .i64 M, .slice pa ps.length pc, .slice la pl.length lc, .slice da dr.length dc] 38))
  have HB := hide (heap_new w (.cells #[.int .i64 T, .int .i64 M, .slice pa ps.length pc, .slice la pl.length lc, .slice da dr.length dc] 38))
  unfold maxLen at h1 h2 h3
  clear hP
  go_enter Try.func43, Try.ntmps43
  go_wp2_with fail
  generalize w.alloc (.cells #[.int .i64 T, .int .i64 M, .slice pa ps.length pc, .slice la pl.length lc, .slice da dr.length dc] 38) = W at HP HB BW ⊢
  obtain ⟨x0, x1, x2, x3, x4⟩ := sc_cells HB.out
  go_loop [8] (fun i => ∃ k : Nat, k ≤ ps.length ∧ i = .int .i64 k ∧ ∀ (j : Nat) (q : List OpD), j < k → ps[j]? = some q → q.length ≤ 32) (fun i => ps.length - (intOf i).toNat)
  case atStart => exact ⟨0, Nat.zero_le _, rfl, fun j q hj => absurd hj (Nat.not_lt_zero _)⟩
  case round =>
    obtain ⟨k, hk, rfl, hall⟩ := hrel
    have HE := hide hall
    clear hall
    by_cases hlt : k < ps.length
    · have hlt' : (k : Int) < (ps.length : Int) := by omega
      obtain ⟨q, hq⟩ : ∃ q, ps[k]? = some q := ⟨ps[k], by simp [hlt]⟩
      obtain ⟨b, off, qa, qc, rfl, hc, _, hm⟩ := HP.out k q hq
      have HQ := hide hq
      unfold maxLen at hm
      clear hq
      by_cases hl : 32 < q.length
      · have hl' : decide (32 < (q.length : Int)) = true := by simp; omega
        go_wp2_with fail
        go_ret
        exact ⟨ret_bool (isl_long HQ.out hl).symm, BW.out⟩
      · have hl' : decide (32 < (q.length : Int)) = false := by simp; omega
        go_wp2_with fail
        go_round
        case rel => exact ⟨k + 1, by omega, by go_num, fun j r hj hr => by
          by_cases e : j = k
          · subst e; rw [HQ.out] at hr; cases hr; omega
          · exact HE.out j r (by omega) hr⟩
        case measure => simp [intOf]; omega
    · have hlt' : ¬ ((k : Int) < (ps.length : Int)) := by omega
      have HI : Hid (isl ps pl.length dr.length = (decide (8 < ps.length) || decide (200 < pl.length) || decide (64 < dr.length))) := isl_short fun j q hj => HE.out j q (by have := (List.getElem?_eq_some_iff.1 hj).1; omega) hj
      have d1 : decide (8 < (ps.length : Int)) = decide (8 < ps.length) := by rw [decide_eq_decide]; omega
      have d2 : decide (200 < (pl.length : Int)) = decide (200 < pl.length) := by rw [decide_eq_decide]; omega
      have d3 : decide (64 < (dr.length : Int)) = decide (64 < dr.length) := by rw [decide_eq_decide]; omega
      clear HE
      cases e1 : decide (8 < ps.length) <;> cases e2 : decide (200 < pl.length) <;> cases e3 : decide (64 < dr.length) <;> rw [e1] at d1 <;> rw [e2] at d2 <;> rw [e3] at d3 <;> rw [e1, e2, e3] at HI
      all_goals
        clear e1 e2 e3
        go_wp2_with fail
        go_ret
        exact ⟨ret_bool (by rw [HI.out]; rfl), BW.out⟩

/-- are all operations right, of n programs? -/
def ari (n : Int) (ps : List (List OpD)) : Bool := ps.all fun p => p.all fun o => chk o n == 0
theorem ari_no {n : Int} {ps : List (List OpD)} {k j : Nat} {q : List OpD} {o : OpD} (hk : ps[k]? = some q) (hj : q[j]? = some o) (h : (chk o n == 0) = false) : ari n ps = false := by
  rw [← Bool.not_eq_true]
  intro e
  rw [ari, List.all_eq_true] at e
  have := e q (List.mem_of_getElem? hk)
  rw [List.all_eq_true] at this
  have := this o (List.mem_of_getElem? hj)
  rw [h] at this
  cases this
theorem ari_yes {n : Int} {ps : List (List OpD)} (h : ∀ (k : Nat) (q : List OpD), ps[k]? = some q → ∀ (j : Nat) (o : OpD), q[j]? = some o → chk o n = 0) : ari n ps = true := by
  rw [ari, List.all_eq_true]
  intro q hq
  rw [List.all_eq_true]
  intro o ho
  obtain ⟨k, hk⟩ := List.mem_iff_getElem?.1 hq
  obtain ⟨j, hj⟩ := List.mem_iff_getElem?.1 ho
  simp [h k q hk j o hj]
theorem ari_of {n : Int} {ps : List (List OpD)} (h : ari n ps = true) {k j : Nat} {q : List OpD} {o : OpD} (hk : ps[k]? = some q) (hj : q[j]? = some o) : chk o n = 0 := by
  cases e : chk o n == 0
  · rw [ari_no hk hj e] at h; cases h
  · simpa using e

set_option maxRecDepth 100000 in
set_option maxHeartbeats 3200000 in
theorem areRight_any (ps : List (List OpD)) (pa : Option Addr) (pc : Nat) (w : World) (hP : PAt w pa ps) (h1 : ps.length ≤ maxLen) :
    Calls Try.prog 44 #[.slice pa ps.length pc] w fun r w' => r = .returned (.bool (ari ps.length ps)) ∧ Below w.heap.size w w' := by
  have HP := hide hP
  unfold maxLen at h1
  clear hP
  go_enter Try.func44, Try.ntmps44
  go_wp2_with fail
  go_loopw [9] (fun i wr => ∃ k : Nat, k ≤ ps.length ∧ i = .int .i64 k ∧ (∀ (j : Nat) (q : List OpD), j < k → ps[j]? = some q → ∀ (i : Nat) (o : OpD), q[i]? = some o → chk o ps.length = 0) ∧ Below w.heap.size w wr) (fun i _ => ps.length - (intOf i).toNat)
  case atStart => exact ⟨0, Nat.zero_le _, rfl, fun j q hj => absurd hj (Nat.not_lt_zero _), Below.refl _ _⟩
  case round =>
    rename World => w0
    obtain ⟨k, hk, rfl, hall, bw⟩ := hrel
    have HE := hide hall
    have BW := hide bw
    clear hall bw
    by_cases hlt : k < ps.length
    · have hlt' : (k : Int) < (ps.length : Int) := by omega
      obtain ⟨q, hq⟩ : ∃ q, ps[k]? = some q := ⟨ps[k], by simp [hlt]⟩
      obtain ⟨b, off, qa, qc, rfl, hc, hO, hm⟩ := (HP.out.below BW.out) k q hq
      have HQ := hide hq
      have HO := hide hO
      unfold maxLen at hm
      clear hq hO
      go_wp2_with fail
      go_loopw [15] (fun i wr => ∃ j : Nat, j ≤ q.length ∧ i = .int .i64 j ∧ (∀ (t : Nat) (o : OpD), t < j → q[t]? = some o → chk o ps.length = 0) ∧ Below w0.heap.size w0 wr) (fun i _ => q.length - (intOf i).toNat)
      case atStart => exact ⟨0, Nat.zero_le _, rfl, fun j q hj => absurd hj (Nat.not_lt_zero _), Below.refl _ _⟩
      case round =>
        obtain ⟨j, hj, rfl, hall, bw2⟩ := hrel
        have HF := hide hall
        have B2 := hide bw2
        clear hall bw2
        by_cases hjl : j < q.length
        · have hjl' : (j : Int) < (q.length : Int) := by omega
          obtain ⟨o, ho⟩ : ∃ o, q[j]? = some o := ⟨q[j], by simp [hjl]⟩
          obtain ⟨b', off', ca, cc, rfl, ⟨y0, y1, y2, y3, y4⟩, hC, hM⟩ := (HO.out.below B2.out) j o ho
          have HX := hide ho
          have HC := hide hC
          have HM := hide hM
          clear ho hC hM
          have B3 := hide (btr B2.out (below_alloc wr (.cells #[.int .i64 o.kind, .int .i64 o.a, .int .i64 o.b, .slice ca o.cases.length cc, .bool o.def_] 24)))
          have C3 := hide (HC.out.below (below_alloc wr (.cells #[.int .i64 o.kind, .int .i64 o.a, .int .i64 o.b, .slice ca o.cases.length cc, .bool o.def_] 24)))
          cases hz : chk o ps.length == 0
          · have hz' : (chk o ps.length != 0) = true := by simp [bne, hz]
            have HZ := hide hz
            clear hz
            go_wp2_with fail
            refine (check_any o ca cc _ _ C3.out HM.out).mono ?_
            rintro r w4 ⟨rfl, b4⟩
            have B4 := hide (btr B3.out b4)
            clear b4
            go_wp2_with fail
            go_ret
            exact ⟨ret_bool (ari_no HQ.out HX.out HZ.out).symm, btr BW.out B4.out⟩
          · have hz' : (chk o ps.length != 0) = false := by simp [bne, hz]
            have HZ : Hid (chk o ps.length = 0) := by show _ = _; simpa using hz
            clear hz
            go_wp2_with fail
            refine (check_any o ca cc _ _ C3.out HM.out).mono ?_
            rintro r w4 ⟨rfl, b4⟩
            have B4 := hide (btr B3.out b4)
            clear b4
            go_wp2_with fail
            go_roundw
            case rel => exact ⟨j + 1, by omega, by go_num, fun t x ht hx => by
              by_cases e : t = j
              · subst e; rw [HX.out] at hx; cases hx; exact HZ.out
              · exact HF.out t x (by omega) hx, B4.out⟩
            case measure => simp [intOf]; omega
        · have hjl' : ¬ ((j : Int) < (q.length : Int)) := by omega
          go_wp2_with fail
          go_roundw
          case rel =>
            exact ⟨k + 1, by omega, by go_num, fun t r ht hr i o ho => by
              by_cases e : t = k
              · subst e; rw [HQ.out] at hr; cases hr
                exact HF.out i o (by have := (List.getElem?_eq_some_iff.1 ho).1; omega) ho
              · exact HE.out t r (by omega) hr i o ho, btr BW.out B2.out⟩
          case measure => simp [intOf]; omega
    · have hlt' : ¬ ((k : Int) < (ps.length : Int)) := by omega
      go_wp2_with fail
      go_ret
      exact ⟨ret_bool (ari_yes fun t q hq j o ho => HE.out t q (by have := (List.getElem?_eq_some_iff.1 hq).1; omega) hq j o ho).symm, BW.out⟩
end Sh
end Go.Proofs.Ytocmdehpbipmlaa
/- Package sheet: Check, over this seat's program. -/
namespace Go.Proofs.Ytocmdehpbipmlaa
open Go.ChangeShapes Go.WideShapes Go.ChangeAt Go.RowKit
namespace Sh
open De Ba Re

/-- a script -/
structure Sc where
  T : Int
  M : Int
  ps : List (List OpD)
  pl : List Int
  dr : List Int
/-- which scripts are right -/
def schk (s : Sc) : Int :=
  bif !((decide (1 ≤ s.T) && decide (s.T ≤ 256)) && (decide (1 ≤ s.M) && decide (s.M ≤ 1048576))) then 1
  else bif isl s.ps s.pl.length s.dr.length then 2
  else bif !(!decide (s.ps.length = 0) && ari s.ps.length s.ps) then 4
  else bif !(ab (-1) 1000 s.pl && ab 0 1000 s.dr) then 4 else 0
/-- a script lies in memory -/
structure SAt (w : World) (s : Sc) (pa la da : Option Addr) : Prop where
  ps : PAt w pa s.ps
  pl : At w la s.pl
  dr : At w da s.dr
  h1 : s.ps.length ≤ maxLen
  h2 : s.pl.length ≤ maxLen
  h3 : s.dr.length ≤ maxLen
theorem SAt.below {w w' : World} {s : Sc} {pa la da : Option Addr} (h : SAt w s pa la da) (hb : Below w.heap.size w w') : SAt w' s pa la da :=
  ⟨h.ps.below hb, h.pl.below hb, h.dr.below hb, h.h1, h.h2, h.h3⟩

set_option maxRecDepth 100000 in
set_option maxHeartbeats 3200000 in
theorem scheck_any (T M : Int) (ps : List (List OpD)) (pl dr : List Int) (pa la da : Option Addr) (pc lc dc : Nat) (w : World) (hS : SAt w ⟨T, M, ps, pl, dr⟩ pa la da) :
    Calls Try.prog 17 #[.agg #[.int .i64 T, .int .i64 M, .slice pa ps.length pc, .slice la pl.length lc, .slice da dr.length dc]] w fun r w' => r = .returned (.int .i64 (schk ⟨T, M, ps, pl, dr⟩)) ∧ Below w.heap.size w w' := by
  have S0 := hide (hS.below (below_alloc w (.cells #[.int .i64 T, .int .i64 M, .slice pa ps.length pc, .slice la pl.length lc, .slice da dr.length dc] 38)))
  have B0 := hide (below_alloc w (.cells #[.int .i64 T, .int .i64 M, .slice pa ps.length pc, .slice la pl.length lc, .slice da dr.length dc] 38))
  have H0 := hide (heap_new w (.cells #[.int .i64 T, .int .i64 M, .slice pa ps.length pc, .slice la pl.length lc, .slice da dr.length dc] 38))
  have h1 := hS.h1
  unfold maxLen at h1
  simp only at h1
  clear hS
  unfold schk
  simp only
  cases e1 : decide (1 ≤ T) && decide (T ≤ 256)
  · simp only [Bool.false_and, Bool.not_false, cond_true]
    go_enter Try.func17, Try.ntmps17
    go_wp2_with fail
    refine (between_any _ _ _ _).mono ?_
    rw [e1]
    rintro r w1 ⟨rfl, rfl⟩
    go_wp2_with fail
    go_ret
    exact ⟨rfl, B0.out⟩
  cases e2 : decide (1 ≤ M) && decide (M ≤ 1048576)
  · simp only [Bool.and_false, Bool.not_false, cond_true]
    go_enter Try.func17, Try.ntmps17
    go_wp2_with fail
    refine (between_any _ _ _ _).mono ?_
    rw [e1]
    rintro r w1 ⟨rfl, rfl⟩
    go_wp2_with fail
    refine (between_any _ _ _ _).mono ?_
    rw [e2]
    rintro r w1 ⟨rfl, rfl⟩
    go_wp2_with fail
    go_ret
    exact ⟨rfl, B0.out⟩
  simp only [Bool.and_self, Bool.not_true, cond_false]
  cases e3 : isl ps pl.length dr.length
  rotate_left
  · simp only [cond_true]
    go_enter Try.func17, Try.ntmps17
    go_wp2_with fail
    refine (between_any _ _ _ _).mono ?_
    rw [e1]
    rintro r w1 ⟨rfl, rfl⟩
    go_wp2_with fail
    refine (between_any _ _ _ _).mono ?_
    rw [e2]
    rintro r w1 ⟨rfl, rfl⟩
    go_wp2_with fail
    refine (isLong_any T M ps pl dr pa la da pc lc dc _ S0.out.ps S0.out.h1 S0.out.h2 S0.out.h3).mono ?_
    rw [e3]
    rintro r w3 ⟨rfl, b3⟩
    have B3 := hide (btr B0.out b3)
    clear b3
    go_wp2_with fail
    go_ret
    exact ⟨rfl, B3.out⟩
  simp only [cond_false]
  by_cases h0 : ps.length = 0
  · have e4 : ((ps.length : Int) == 0) = true := by rw [h0]; rfl
    have h0d : decide (ps.length = 0) = true := by simpa using h0
    simp only [h0d, Bool.not_true, Bool.false_and, Bool.not_false, cond_true]
    clear h0 h0d
    go_enter Try.func17, Try.ntmps17
    go_wp2_with fail
    refine (between_any _ _ _ _).mono ?_
    rw [e1]
    rintro r w1 ⟨rfl, rfl⟩
    go_wp2_with fail
    refine (between_any _ _ _ _).mono ?_
    rw [e2]
    rintro r w1 ⟨rfl, rfl⟩
    go_wp2_with fail
    refine (isLong_any T M ps pl dr pa la da pc lc dc _ S0.out.ps S0.out.h1 S0.out.h2 S0.out.h3).mono ?_
    rw [e3]
    rintro r w3 ⟨rfl, b3⟩
    have B3 := hide (btr B0.out b3)
    have H3 := hide (heap_below H0.out b3)
    obtain ⟨x0, x1, x2, x3, x4⟩ := sc_cells H3.out
    clear b3
    go_wp2_with fail
    go_ret
    exact ⟨rfl, B3.out⟩
  have e4 : ((ps.length : Int) == 0) = false := by rw [beq_eq_false_iff_ne]; omega
  have h0d : decide (ps.length = 0) = false := by simpa using h0
  simp only [h0d, Bool.not_false, Bool.true_and]
  clear h0 h0d
  cases e5 : ari ps.length ps
  · simp only [Bool.not_false, cond_true]
    go_enter Try.func17, Try.ntmps17
    go_wp2_with fail
    refine (between_any _ _ _ _).mono ?_
    rw [e1]
    rintro r w1 ⟨rfl, rfl⟩
    go_wp2_with fail
    refine (between_any _ _ _ _).mono ?_
    rw [e2]
    rintro r w1 ⟨rfl, rfl⟩
    go_wp2_with fail
    refine (isLong_any T M ps pl dr pa la da pc lc dc _ S0.out.ps S0.out.h1 S0.out.h2 S0.out.h3).mono ?_
    rw [e3]
    rintro r w3 ⟨rfl, b3⟩
    have B3 := hide (btr B0.out b3)
    have H3 := hide (heap_below H0.out b3)
    have S3 := hide (S0.out.below b3)
    obtain ⟨x0, x1, x2, x3, x4⟩ := sc_cells H3.out
    clear b3
    go_wp2_with fail
    refine (areRight_any ps pa pc _ S3.out.ps S3.out.h1).mono ?_
    rw [e5]
    rintro r w4 ⟨rfl, b4⟩
    have B4 := hide (btr B3.out b4)
    clear b4
    go_wp2_with fail
    go_ret
    exact ⟨rfl, B4.out⟩
  simp only [Bool.not_true, cond_false]
  cases e6 : ab (-1) 1000 pl
  · simp only [Bool.false_and, Bool.not_false, cond_true]
    go_enter Try.func17, Try.ntmps17
    go_wp2_with fail
    refine (between_any _ _ _ _).mono ?_
    rw [e1]
    rintro r w1 ⟨rfl, rfl⟩
    go_wp2_with fail
    refine (between_any _ _ _ _).mono ?_
    rw [e2]
    rintro r w1 ⟨rfl, rfl⟩
    go_wp2_with fail
    refine (isLong_any T M ps pl dr pa la da pc lc dc _ S0.out.ps S0.out.h1 S0.out.h2 S0.out.h3).mono ?_
    rw [e3]
    rintro r w3 ⟨rfl, b3⟩
    have B3 := hide (btr B0.out b3)
    have H3 := hide (heap_below H0.out b3)
    have S3 := hide (S0.out.below b3)
    obtain ⟨x0, x1, x2, x3, x4⟩ := sc_cells H3.out
    clear b3
    go_wp2_with fail
    refine (areRight_any ps pa pc _ S3.out.ps S3.out.h1).mono ?_
    rw [e5]
    rintro r w4 ⟨rfl, b4⟩
    have B4 := hide (btr B3.out b4)
    have H4 := hide (heap_below H3.out b4)
    have S4 := hide (S3.out.below b4)
    obtain ⟨y0, y1, y2, y3, y4⟩ := sc_cells H4.out
    clear b4
    go_wp2_with fail
    refine (all_any la pl lc _ _ _ S4.out.pl S4.out.h2).mono ?_
    rw [e6]
    rintro r w5 ⟨rfl, rfl⟩
    go_wp2_with fail
    go_ret
    exact ⟨rfl, B4.out⟩
  simp only [Bool.true_and]
  cases e7 : ab 0 1000 dr
  all_goals
    first | simp only [Bool.not_false, cond_true] | simp only [Bool.not_true, cond_false]
    go_enter Try.func17, Try.ntmps17
    go_wp2_with fail
    refine (between_any _ _ _ _).mono ?_
    rw [e1]
    rintro r w1 ⟨rfl, rfl⟩
    go_wp2_with fail
    refine (between_any _ _ _ _).mono ?_
    rw [e2]
    rintro r w1 ⟨rfl, rfl⟩
    go_wp2_with fail
    refine (isLong_any T M ps pl dr pa la da pc lc dc _ S0.out.ps S0.out.h1 S0.out.h2 S0.out.h3).mono ?_
    rw [e3]
    rintro r w3 ⟨rfl, b3⟩
    have B3 := hide (btr B0.out b3)
    have H3 := hide (heap_below H0.out b3)
    have S3 := hide (S0.out.below b3)
    obtain ⟨x0, x1, x2, x3, x4⟩ := sc_cells H3.out
    clear b3
    go_wp2_with fail
    refine (areRight_any ps pa pc _ S3.out.ps S3.out.h1).mono ?_
    rw [e5]
    rintro r w4 ⟨rfl, b4⟩
    have B4 := hide (btr B3.out b4)
    have H4 := hide (heap_below H3.out b4)
    have S4 := hide (S3.out.below b4)
    obtain ⟨y0, y1, y2, y3, y4⟩ := sc_cells H4.out
    clear b4
    go_wp2_with fail
    refine (all_any la pl lc _ _ _ S4.out.pl S4.out.h2).mono ?_
    rw [e6]
    rintro r w5 ⟨rfl, rfl⟩
    go_wp2_with fail
    refine (all_any da dr dc _ _ _ S4.out.dr S4.out.h3).mono ?_
    rw [e7]
    rintro r w5 ⟨rfl, rfl⟩
    go_wp2_with fail
    go_ret
    exact ⟨rfl, B4.out⟩
end Sh
end Go.Proofs.Ytocmdehpbipmlaa
/- A strings.Builder of the call's own; package sheet: putNumbers, putList, over this seat's program. -/
namespace Go.Proofs.Ytocmdehpbipmlaa
open Go.ChangeShapes Go.WideShapes Go.ChangeAt Go.RowKit
open Go.Shelf
namespace Sh
open De Ba Re

def lays169_ren : Go.Shelf.Ren := ⟨fun | 169 => 38 | n => n, fun | 70 => 70 | 9 => 9 | 0 => 0 | 72 => 73 | 37 => 71 | 127 => 121 | 3 => 3 | 5 => 5 | n => n, fun | n => n⟩
theorem lays169 : Go.Proofs.Lays.n169 Try.prog lays169_ren := {
  mixed := by kernel_rfl
  f169 := Try.func38.trans (congrArg some (by kernel_rfl))
  t0 := Try.underlying0
  a0 := Try.isAgg0
  z0 := Try.sizeOf0
  v0 := Try.zeroValue0
  t3 := Try.underlying3
  a3 := Try.isAgg3
  z3 := Try.sizeOf3
  v3 := Try.zeroValue3
  t9 := Try.underlying9
  a9 := Try.isAgg9
  z9 := Try.sizeOf9
  v9 := Try.zeroValue9
  t37 := Try.underlying71
  a37 := Try.isAgg71
  z37 := Try.sizeOf71
  v37 := Try.zeroValue71
  t70 := Try.underlying70
  a70 := Try.isAgg70
  z70 := Try.sizeOf70
  v70 := Try.zeroValue70
  t72 := Try.underlying73
  a72 := Try.isAgg73
  z72 := Try.sizeOf73
  v72 := Try.zeroValue73
  t127 := Try.underlying121
  a127 := Try.isAgg121
  z127 := Try.sizeOf121
  v127 := Try.zeroValue121 }
theorem extra169 : Builder.Extra Try.prog lays169_ren := {
  sizeBuilder := by kernel_rfl
  liesBuilder := by kernel_rfl
  t5 := Try.underlying5
  a5 := Try.isAgg5
  z5 := Try.sizeOf5
  v5 := Try.zeroValue5
  infoByte := by kernel_rfl
  cellsByte := by kernel_rfl
  sizeByte := by kernel_rfl
  neB5 := by decide }
/-- a builder in block b holds the bytes s -/
def BL (w : World) (b : Nat) (s : ByteArray) : Prop := Lib.IsBuilderF 73 5 b b (Lib.strCells s) w
/-- what a builder's call leaves: below it all, above it all but bytes -/
structure BK (b : Nat) (w w' : World) : Prop where
  bel : Below b w w'
  oth : Lib.OthersKept 5 (some b) w w'
theorem BK.refl (b : Nat) (w : World) : BK b w w := ⟨Below.refl _ _, Lib.OthersKept.refl _ _ _⟩
theorem BK.trans {b : Nat} {a c d : World} (h : BK b a c) (k : BK b c d) : BK b a d := ⟨h.bel.trans k.bel, h.oth.trans k.oth⟩
theorem BK.of {b : Nat} {a c : World} (h : Below a.heap.size a c) (hb : b ≤ a.heap.size) : BK b a c := ⟨h.mono hb, fun _ _ hk _ _ => heap_below hk h⟩

theorem string_any (b : Nat) (s : ByteArray) (w : World) (h : BL w b s) (hb : b ≤ w.heap.size) :
    Calls Try.prog 38 #[.pointer (some ⟨b, 0, none⟩)] w fun r w' => r = .returned (.string s) ∧ BK b w w' := by
  have := Any.Builder_String_any_k lays169 extra169 b b s.data.toList w h hb
  refine Calls.mono this ?_
  rintro r w' ⟨rfl, _, h2, h3⟩
  exact ⟨rfl, h2, h3⟩

set_option maxHeartbeats 1000000 in
set_option maxRecDepth 100000 in
theorem copyCheck_used (b : Nat) (w : World) (h : w.cell? ⟨b, 0, none⟩ = some (.pointer (some ⟨b, 0, none⟩))) :
    Calls Try.prog 68 #[.pointer (some ⟨b, 0, none⟩)] w fun r w' => r = .returned (.tuple #[]) ∧ w' = w := by
  obtain ⟨j, hj, _⟩ := Option.map_eq_some_iff.1 extra169.sizeBuilder
  go_enter Try.func68, Try.ntmps68
  go_wp2_with fail
  rw [Lib.run_neq_ptr_same w _ Try.underlying70 hj]
  go_wp2_with fail
  go_end0
  exact ⟨rfl, rfl⟩
set_option maxHeartbeats 1000000 in
set_option maxRecDepth 100000 in
theorem copyCheck_fresh (b : Nat) (w : World) (h : w.cell? ⟨b, 0, none⟩ = some (.pointer none)) (hsh : w.shape? b = some (73, 2)) (hfz : w.frozen? ⟨b, 0, none⟩ = false) :
    Calls Try.prog 68 #[.pointer (some ⟨b, 0, none⟩)] w fun r w' => r = .returned (.tuple #[]) ∧ w' = w.setCell ⟨b, 0, none⟩ (.pointer (some ⟨b, 0, none⟩)) := by
  obtain ⟨j, hj, hjs⟩ := Option.map_eq_some_iff.1 extra169.sizeBuilder
  go_enter Try.func68, Try.ntmps68
  go_wp2_with fail
  rw [Lib.run_to_unsafe w ⟨b, 0, none⟩ Try.underlying70 Try.underlying137 hj (by rw [hjs]; decide) hsh (Nat.zero_lt_succ 1)]
  simp only [Result.andThen]
  rw [Oper.upon_value]
  go_wp2_with fail
  rw [run_callFunc_extern Try.func79 (by kernel_rfl) (by kernel_rfl) (by kernel_rfl) (e := Extern.AbiNoEscape.same) (by kernel_rfl)]
  rw [Lib.run_noEscape]
  simp only [Result.andThen]
  rw [Oper.upon_value]
  go_wp2_with fail
  rw [Lib.run_from_unsafe w ⟨b, 0, none⟩ Try.underlying137 Try.underlying70 hj hsh extra169.liesBuilder]
  simp only [Result.andThen]
  rw [Oper.upon_value]
  go_wp2_with fail
  go_end0
  exact ⟨rfl, rfl⟩
theorem copyCheck_any (b : Nat) (xs : List Value) (w : World) (h : Lib.IsBuilderF 73 5 b b xs w) :
    Calls Try.prog 68 #[.pointer (some ⟨b, 0, none⟩)] w fun r w' => r = .returned (.tuple #[]) ∧ Lib.BuilderAtF 73 5 b b (.pointer (some ⟨b, 0, none⟩)) xs w' ∧ BK b w w' := by
  rcases h with h | h
  · refine (copyCheck_fresh b w h.cell0 h.shape h.frozen0).mono ?_
    rintro r w' ⟨rfl, rfl⟩
    exact ⟨rfl, h.used _, (Below.refl b w).setCell (p := ⟨b, 0, none⟩) (Nat.le_refl _) _, (Lib.OthersKept.refl _ _ w).setCell ⟨b, 0, none⟩ rfl _⟩
  · refine (copyCheck_used b w h.cell0).mono ?_
    rintro r w' ⟨rfl, rfl⟩
    exact ⟨rfl, h, BK.refl _ _⟩
theorem strCells_append (s t : ByteArray) : Lib.strCells (s ++ t) = Lib.strCells s ++ Lib.strCells t := by
  simp [Lib.strCells]
set_option maxHeartbeats 2000000 in
set_option maxRecDepth 100000 in
theorem write_any (b : Nat) (s t : ByteArray) (w : World) (h : BL w b s) (hlen : s.size + t.size ≤ 140737488355328) (hb : b ≤ w.heap.size) :
    Calls Try.prog 35 #[.pointer (some ⟨b, 0, none⟩), .string t] w fun r w' => r = .returned (.tuple #[.int .i64 t.size, .nilIface]) ∧ BL w' b (s ++ t) ∧ BK b w w' := by
  obtain ⟨i0, hi, hz0, hz1, hz2⟩ := info_parts extra169.infoByte
  have hls : (Lib.strCells s).length = s.size := Lib.strCells_length s
  unfold BL
  rw [strCells_append]
  go_enter Try.func35, Try.ntmps35
  go_wp2_with fail
  refine (copyCheck_any b _ _ h).mono ?_
  rintro e w1 ⟨rfl, h1, k1⟩
  obtain ⟨hB, v, hbk, hown, hne⟩ := h1
  have c1 : w1.cell? ⟨b, 1, none⟩ = some v := cell_of hbk 1
  have s1 := k1.bel.size
  have K1 := hide k1
  clear k1
  go_wp2_with (at_builtin; refine Lib.wpList_append_own_stringF _ rfl _ _ 71 9 rfl b 5 i0 Try.underlying71 Try.underlying9 hi hz0 hz1 hz2 _ _ _ rfl hown t rfl ?c3 ?c4 ?c5 ?_)
  case c3 => unfold maxLen; omega
  case c4 => omega
  case c5 => omega
  intro v' w2 hown' hgrow _
  have hb2 : w2.heap[b]? = some (.cells #[.pointer (some ⟨b, 0, none⟩), v] 73 (0, 0)) := (hgrow.block b (De.heap_lt hbk) (fun e => hne e.symm)).trans hbk
  have d1 : w2.cell? ⟨b, 1, none⟩ = some v := cell_of hb2 1
  have f1 : w2.frozen? ⟨b, 1, none⟩ = false := frozen_of hb2 1
  obtain ⟨ao, n', cap, rfl⟩ : ∃ ao n' cap, v' = .slice ao n' cap := by
    rcases hown'.2 with ⟨hv, _⟩ | ⟨g, cap, cur, fz, hv, _⟩
    · exact ⟨_, _, _, hv⟩
    · exact ⟨_, _, _, hv⟩
  go_wp2_with fail
  go_ret2
  refine ⟨rfl, .inr ?_, ?_, (K1.out.oth.grown hgrow (Lib.ownsRowF_kind hown)).setCell ⟨b, 1, none⟩ rfl _⟩
  · exact Lib.BuilderAtF.put (T := 73) (e := 5) hB hb2 (bs' := Lib.strCells s ++ Lib.strCells t) (by simpa [Lib.strCells_length] using hown') extra169.neB5
  · exact (K1.out.bel.grown hgrow (by omega) (fun k hk => (hown.lt k hk).1)).setCell (p := ⟨b, 1, none⟩) hB _
end Sh
end Go.Proofs.Ytocmdehpbipmlaa
/- make and copy of rows of whatever cells. -/
namespace Go.Proofs.Ytocmdehpbipmlaa
open Go.ChangeShapes Go.WideShapes Go.ChangeAt Go.RowKit
namespace Ba

/-- the cells from oa on are cs -/
def CsAt (w : World) (oa : Option Addr) (cs : List Value) : Prop := ∀ j v, cs[j]? = some v → ∃ b off, oa = some ⟨b, off, none⟩ ∧ w.cell? ⟨b, off + j, none⟩ = some v
theorem CsAt.below {w w' : World} {oa : Option Addr} {cs : List Value} (h : CsAt w oa cs) (hb : Below w.heap.size w w') : CsAt w' oa cs := by
  intro j v hj
  obtain ⟨b, off, he, hc⟩ := h j v hj
  exact ⟨b, off, he, (hb.cell (World.block_lt_of_cell? w _ hc)).trans hc⟩
theorem run_mkG {t e : TypeId} {i : TypeInfo} {z : Value} (ht : Try.prog.underlying t = some (.slice e)) (hi : Try.prog.info? e = some i) (hz : i.zero = some z) (w : World) (n : Nat) (hb : n * i.bytes ≤ 1000000000) (hn : n ≤ 1000000000) :
    (Instr.makeSlice t (.int .i64 (n : Int)) (.int .i64 (n : Int))).run Try.prog w = .ok (.slice (some ⟨w.heap.size, 0, none⟩) n n) (w.alloc (.cells (madeCells z.cells (n * i.size)) e)) := by
  have := run_make (P := Try.prog) w t e i z ht hi hz .i64 .i64 n n (by omega) (Int.le_refl _) (by rw [← Int.natCast_mul, Nat.mul_comm]; omega) (by omega)
  rw [Int.toNat_natCast] at this
  exact this
theorem run_cpG {t e : TypeId} {i : TypeInfo} {z : Value} (ht : Try.prog.underlying t = some (.slice e)) (hi : Try.prog.info? e = some i) (ty : TypeId) (w : World) (oa : Option Addr) (n c : Nat) (cs : List Value) (hl : cs.length = n * i.size) (hA : CsAt w oa cs) (h1 : ∀ v ∈ cs, v.oneCell' = true) (hs : 0 < i.size) :
    (Builtin.copy_ #[t, t] ty #[.slice (some ⟨w.heap.size, 0, none⟩) n n, .slice oa n c]).run Try.prog (w.alloc (.cells (madeCells z.cells (n * i.size)) e)) = .ok (goInt n) (w.alloc (.cells cs.toArray e)) := by
  have hfirst : (Builtin.firstCells i.size n (.slice oa n c)).run Try.prog (w.alloc (.cells (madeCells z.cells (n * i.size)) e)) = .ok cs.toArray (w.alloc (.cells (madeCells z.cells (n * i.size)) e)) := by
    cases oa with
    | none =>
      have h0 : cs = [] := by
        cases cs with
        | nil => rfl
        | cons v t =>
          obtain ⟨_, _, he, _⟩ := hA 0 v rfl
          cases he
      have hn : n = 0 := by
        rw [h0, List.length_nil] at hl
        rcases Nat.mul_eq_zero.1 hl.symm with q | q
        · exact q
        · omega
      subst h0 hn
      exact run_firstCells_none _ _ _ _ _
    | some a =>
      refine run_firstCells_some _ _ _ a n c cs hl ?_
      intro j v hj
      obtain ⟨b, off, he, hc⟩ := hA.below (below_alloc w (.cells (madeCells z.cells (n * i.size)) e)) j v hj
      cases he
      rw [Addr.add_lit]
      exact hc
  have hst := run_storeCells_at Try.prog w.heap.size 0 e cs 0 (madeCells z.cells (n * i.size)) (w.alloc (.cells (madeCells z.cells (n * i.size)) e)) (heap_new _ _) (by rw [size_madeCells]; omega) h1
  have hd : (madeCells z.cells (n * i.size)).toList.drop (0 + 0 + cs.length) = [] := by
    apply List.drop_eq_nil_of_le
    rw [Array.length_toList, size_madeCells]
    omega
  rw [setRow_new, hd] at hst
  simp only [Nat.add_zero, List.take_zero, List.nil_append, List.append_nil] at hst
  simp [Builtin.copy_, run_underlying ht, Builtin.lenOf, sizeOf, typeInfo, hi, hfirst, hst]
theorem at_cs {w : World} {oa : Option Addr} {l : List Int} (h : At w oa l) : CsAt w oa (l.map (Value.int .i64)) := by
  intro j v hj
  have hjl : j < l.length := by
    have := (List.getElem?_eq_some_iff.1 hj).1
    simpa using this
  obtain ⟨b, off, he, hc⟩ := h j hjl
  refine ⟨b, off, he, ?_⟩
  rw [hc, nth_lt l j hjl]
  rw [List.getElem?_map, List.getElem?_eq_getElem hjl] at hj
  exact hj
end Ba
end Go.Proofs.Ytocmdehpbipmlaa
/- Package sheet: copied, moved, putNumbers, putList, over this seat's program. -/
namespace Go.Proofs.Ytocmdehpbipmlaa
open Go.ChangeShapes Go.WideShapes Go.ChangeAt Go.RowKit
namespace Sh
open De Ba Re

set_option maxRecDepth 100000 in
set_option maxHeartbeats 800000 in
theorem copied_int (oa : Option Addr) (l : List Int) (c : Nat) (w : World) (hA : At w oa l) (hl : l.length ≤ 1000000) :
    Calls Try.prog 54 #[.slice oa l.length c] w fun r w' => r = .returned (.slice (some ⟨w.heap.size, 0, none⟩) l.length l.length) ∧ w' = w.alloc (.cells (row l) 3) := by
  obtain ⟨i0, hi, hz0, hz1, hz2⟩ := info_parts Ba.info_int
  have hm := run_mkG Try.underlying36 hi hz0 w l.length (by rw [hz2]; omega) (by omega)
  have hcp := run_cpG (z := .int .i64 0) Try.underlying36 hi 3 w oa l.length c (l.map (Value.int .i64)) (by rw [hz1]; simp) (at_cs hA) (fun v hv => by
    obtain ⟨x, _, rfl⟩ := List.mem_map.1 hv
    rfl) (by rw [hz1]; decide)
  generalize madeCells (Value.cells (.int .i64 0)) (l.length * i0.size) = MC at hm hcp
  have hrow : (l.map (Value.int .i64)).toArray = row l := rfl
  rw [hrow] at hcp
  clear hA hrow
  go_enter Try.func54, Try.ntmps54
  go_wp2_with fail
  go_ret
  exact ⟨rfl, rfl⟩

/-- a list, moved by d -/
def mv (d : Int) (l : List Int) : List Int := l.map (· + d)
theorem mv_len (d : Int) (l : List Int) : (mv d l).length = l.length := by simp [mv]
theorem nth_mv (d : Int) (l : List Int) (k : Nat) (h : k < l.length) : nth (mv d l) k = nth l k + d := by
  rw [nth_lt _ k (by rw [mv_len]; exact h), nth_lt l k h]
  simp [mv]
theorem row_mv_step (d : Int) (l : List Int) (k : Nat) (h : k < l.length) : (row ((mv d l).take k ++ l.drop k)).setIfInBounds k (.int .i64 (nth l k + d)) = row ((mv d l).take (k + 1) ++ l.drop (k + 1)) := by
  apply Array.toList_inj.1
  rw [Array.toList_setIfInBounds]
  simp only [row]
  apply List.ext_getElem?
  intro j
  rw [List.getElem?_set]
  have hk : k < (mv d l).length := by rw [mv_len]; exact h
  by_cases e : k = j
  · subst e
    rw [if_pos rfl, if_pos (by simp; omega)]
    rw [List.getElem?_map, List.getElem?_append_left (by simp; omega), List.getElem?_take, if_pos (by omega), List.getElem?_eq_getElem hk]
    simp only [Option.map_some]
    rw [← nth_lt _ k hk, nth_mv d l k h]
  · rw [if_neg e, List.getElem?_map, List.getElem?_map]
    congr 1
    by_cases hj : j < k
    · rw [List.getElem?_append_left (by simp; omega), List.getElem?_append_left (by simp; omega), List.getElem?_take, List.getElem?_take, if_pos hj, if_pos (by omega)]
    · rw [List.getElem?_append_right (by simp; omega), List.getElem?_append_right (by simp; omega), List.getElem?_drop, List.getElem?_drop]
      congr 1
      simp
      omega
set_option maxHeartbeats 1600000 in
theorem moved_any (oa : Option Addr) (l : List Int) (c : Nat) (d : Int) (w : World) (hA : At w oa l) (hl : l.length ≤ 1000000) (hd : -10 ≤ d ∧ d ≤ 10) (hb : ∀ k, k < l.length → -1 ≤ nth l k ∧ nth l k ≤ 1099511627776) :
    Calls Try.prog 37 #[.slice oa l.length c, .int .i64 d] w fun r w' => r = .returned (.slice (some ⟨w.heap.size, 0, none⟩) l.length l.length) ∧ At w' (some ⟨w.heap.size, 0, none⟩) (mv d l) ∧ Below w.heap.size w w' := by
  have HA := hide hA
  have HB := hide hb
  obtain ⟨d1, d2⟩ := hd
  clear hA hb
  go_enter Try.func37, Try.ntmps37
  go_wp2_with fail
  refine (copied_int oa l c _ HA.out hl).mono ?_
  rintro r w1 ⟨rfl, rfl⟩
  go_wp2_with fail
  go_loopw [10] (fun i wr => ∃ k : Nat, k ≤ l.length ∧ i = .int .i64 k ∧ wr.heap[w.heap.size]? = some (.cells (row ((mv d l).take k ++ l.drop k)) 3 (0, 0)) ∧ Below w.heap.size w wr) (fun i _ => l.length - (intOf i).toNat)
  case atStart => exact ⟨0, Nat.zero_le _, rfl, by simpa using heap_new w (.cells (row l) 3), below_alloc _ _⟩
  case round =>
    obtain ⟨k, hk, rfl, h1, b1⟩ := hrel
    have H1 := hide h1
    have B1 := hide b1
    clear h1 b1
    by_cases hlt : k < l.length
    · have hlt' : (k : Int) < (l.length : Int) := by omega
      have hbk := HB.out k hlt
      have ck : wr.cell? ⟨w.heap.size, k, none⟩ = some (.int .i64 (nth l k)) := by
        rw [cell_of H1.out, row, List.getElem?_toArray, List.getElem?_map, List.getElem?_append_right (by simp [mv_len]; omega), List.getElem?_drop]
        simp only [List.length_take, mv_len]
        rw [show k + (k - min k l.length) = k by omega, List.getElem?_eq_getElem hlt, nth_lt l k hlt]
        rfl
      have fk := frozen_of H1.out k
      have ST := hide (row_mv_step d l k hlt)
      go_wp2_with fail
      go_roundw
      case rel =>
        refine ⟨k + 1, by omega, by go_num, ?_, B1.out.setCell (Nat.le_refl _) _⟩
        rw [Ba.heap_setCell_same H1.out, ST.out]
      case measure => simp [intOf]; omega
    · have hlt' : ¬ ((k : Int) < (l.length : Int)) := by omega
      obtain rfl : k = l.length := by omega
      have AT : Hid (At wr (some ⟨w.heap.size, 0, none⟩) (mv d l)) := by
        intro j hj
        refine ⟨w.heap.size, 0, rfl, ?_⟩
        rw [Nat.zero_add, cell_of H1.out, List.drop_length, List.append_nil, List.take_of_length_le (by rw [mv_len]; exact Nat.le_refl _), row_at _ j hj]
      go_wp2_with fail
      go_ret
      exact ⟨rfl, AT.out, B1.out⟩

theorem pls_cat (l m : List Int) : De.pls (l ++ m) = De.pls l ++ De.pls m := by simp [De.pls]
/-- a builder that holds the bytes L, below b all as it was -/
theorem write_bs (b : Nat) (L K : List Nat) (w : World) (h : BL w b (bs L)) (hlen : L.length + K.length ≤ 1000000000) (hb : b < w.heap.size) :
    Calls Try.prog 35 #[.pointer (some ⟨b, 0, none⟩), .string (bs K)] w fun r w' => (∃ n : Int, r = .returned (.tuple #[.int .i64 n, .nilIface])) ∧ BL w' b (bs (L ++ K)) ∧ BK b w w' := by
  refine (write_any b (bs L) (bs K) w h (by rw [bs_size, bs_size]; omega) (by omega)).mono ?_
  rintro r w' ⟨rfl, h1, h2⟩
  rw [bs_append] at h1
  exact ⟨⟨_, rfl⟩, h1, h2⟩
theorem BL.below {b : Nat} {s : ByteArray} {w w' : World} (h : BL w b s) (hb : Below w.heap.size w w') : BL w' b s := by
  rcases h with ⟨h1, v, h2, h3, h4⟩ | ⟨h1, v, h2, h3, h4⟩
  · refine .inl ⟨h1, v, heap_below h2 hb, ?_, h4⟩
    refine ⟨h3.1, ?_⟩
    rcases h3.2 with q | ⟨g, cap, cur, fz, q1, q2, q3, q4⟩
    · exact .inl q
    · exact .inr ⟨g, cap, cur, fz, q1, q2, heap_below q3 hb, q4⟩
  · refine .inr ⟨h1, v, heap_below h2 hb, ?_, h4⟩
    refine ⟨h3.1, ?_⟩
    rcases h3.2 with q | ⟨g, cap, cur, fz, q1, q2, q3, q4⟩
    · exact .inl q
    · exact .inr ⟨g, cap, cur, fz, q1, q2, heap_below q3 hb, q4⟩
set_option maxHeartbeats 1600000 in
theorem putNumbers_any (b : Nat) (L : List Nat) (g : Nat) (l : List Int) (c : Nat) (w : World) (hB : BL w b (bs L)) (hb : b < w.heap.size) (hg : w.heap[g]? = some (.cells (row l) 3 (0, 0))) (hgb : g ≠ b) (hl : l.length ≤ 3) (hr : ∀ k, k < l.length → 0 ≤ nth l k ∧ nth l k ≤ 1099511627776) (hS : L.length ≤ 10000000) :
    Calls Try.prog 34 #[.pointer (some ⟨b, 0, none⟩), .slice (some ⟨g, 0, none⟩) l.length c] w fun r w' => r = .returned (.tuple #[]) ∧ BL w' b (bs (L ++ De.pls l)) ∧ BK b w w' := by
  have HB := hide hB
  have HG := hide hg
  have HR := hide hr
  clear hB hg hr
  go_enter Try.func34, Try.ntmps34
  go_wp2_with fail
  go_loopw [10] (fun i wr => ∃ k : Nat, k ≤ l.length ∧ i = .int .i64 k ∧ BL wr b (bs (L ++ De.pls (l.take k))) ∧ BK b w wr) (fun i _ => l.length - (intOf i).toNat)
  case atStart => exact ⟨0, Nat.zero_le _, rfl, by
    rw [List.take_zero, show De.pls [] = [] from rfl, List.append_nil]
    exact HB.out, BK.refl _ _⟩
  case round =>
    obtain ⟨k, hk, rfl, h1, k1⟩ := hrel
    have H1 := hide h1
    have K1 := hide k1
    clear h1 k1
    by_cases hlt : k < l.length
    · have hlt' : (k : Int) < (l.length : Int) := by omega
      obtain ⟨n, hn⟩ := Int.eq_ofNat_of_zero_le (HR.out k hlt).1
      have hn2 : n ≤ 1099511627776 := by have := (HR.out k hlt).2; omega
      have G1 := hide (K1.out.oth g _ HG.out (fun e => hgb (Option.some.inj e)) (fun c fz e => by simp at e))
      have ck : wr.cell? ⟨g, k, none⟩ = some (.int .i64 (n : Int)) := by
        rw [cell_of G1.out, row_at l k hlt, hn]
      have s1 := K1.out.bel.size
      have PS := De.pls_take l k hlt
      rw [hn, Int.toNat_natCast] at PS
      have HPS := hide PS
      have hpl := De.pls_len (l.take k)
      rw [List.length_take] at hpl
      have hsl := (spl_len n).2
      have HN := hide hn
      clear hn PS
      go_wp2_with fail
      refine (put_ok n hn2 _).mono ?_
      rintro r w2 ⟨rfl, b2⟩
      have s2 := b2.size
      have K2 := hide (K1.out.trans (BK.of b2 (by omega)))
      have L2 := hide (H1.out.below b2)
      clear b2
      go_wp2_with fail
      refine (write_bs b _ _ _ L2.out (by rw [List.length_append]; omega) (by omega)).mono ?_
      rintro r w3 ⟨⟨m, rfl⟩, h3, k3⟩
      have K3 := hide (K2.out.trans k3)
      have L3 := hide h3
      clear h3 k3
      go_wp2_with fail
      go_roundw
      case rel => exact ⟨k + 1, by omega, by go_num, by
        rw [HPS.out, ← List.append_assoc]
        exact L3.out, K3.out⟩
      case measure => simp [intOf]; omega
    · have hlt' : ¬ ((k : Int) < (l.length : Int)) := by omega
      go_wp2_with fail
      go_end0
      rw [List.take_of_length_le (by omega)] at H1
      exact ⟨rfl, H1.out, K1.out⟩
theorem putList_any (b : Nat) (L : List Nat) (oa : Option Addr) (l : List Int) (c : Nat) (w : World) (hB : BL w b (bs L)) (hb : b < w.heap.size) (hA : At w oa l) (hl : l.length ≤ 2000) (hr : l.all okR = true) (hS : L.length ≤ 10000000) :
    Calls Try.prog 36 #[.pointer (some ⟨b, 0, none⟩), .slice oa l.length c] w fun r w' => r = .returned (.tuple #[]) ∧ BL w' b (bs (L ++ plist l)) ∧ BK b w w' := by
  have HB := hide hB
  have HA := hide hA
  have hp : (plist l).length ≤ 7 + 7 * l.length := by
    have h1 := Re.pls_len l
    have h2 := (spl_len l.length).2
    rw [plist, List.length_append]
    omega
  clear hB hA
  go_enter Try.func36, Try.ntmps36
  go_wp2_with fail
  refine (putlist_any oa l c _ HA.out hl).mono ?_
  rw [hr]
  rintro r w2 ⟨rfl, b2⟩
  have s2 := b2.size
  have K2 := hide (BK.of b2 (b := b) (by omega))
  have L2 := hide (HB.out.below b2)
  clear b2
  go_wp2_with fail
  refine (write_bs b _ _ _ L2.out (by omega) (by omega)).mono ?_
  rintro r w3 ⟨⟨m, rfl⟩, h3, k3⟩
  have K3 := hide (K2.out.trans k3)
  have L3 := hide h3
  clear h3 k3
  go_wp2_with fail
  go_end0
  exact ⟨rfl, L3.out, K3.out⟩
end Sh
end Go.Proofs.Ytocmdehpbipmlaa
/- Package sheet: Encode, over this seat's program. -/
namespace Go.Proofs.Ytocmdehpbipmlaa
open Go.ChangeShapes Go.WideShapes Go.ChangeAt Go.RowKit
namespace Sh
open De Ba Re

/-- an operation's, a program's, all programs' bytes -/
def eop (o : OpD) : List Nat := De.pls (nums o)
def epr (p : List OpD) : List Nat := spl p.length ++ p.flatMap eop
def eps (ps : List (List OpD)) : List Nat := ps.flatMap epr
/-- a script's bytes -/
def sen (s : Sc) : List Nat := De.pls [s.T, s.M, (s.ps.length : Int)] ++ eps s.ps ++ plist (mv 1 s.pl) ++ plist s.dr
theorem sen_is {T M : Int} {ps : List (List OpD)} {pl dr : List Int} {L0 : List Nat} (h : De.pls [T, M, (ps.length : Int)] = L0) : sen ⟨T, M, ps, pl, dr⟩ = L0 ++ eps ps ++ plist (mv 1 pl) ++ plist dr := by
  subst h
  rfl
theorem flat_len_le {α : Type} (f : α → List Nat) (m : Nat) (l : List α) (h : ∀ x ∈ l, (f x).length ≤ m) : (l.flatMap f).length ≤ m * l.length := by
  induction l with
  | nil => simp
  | cons x t ih =>
    have h1 := h x (by simp)
    have h2 := ih fun y hy => h y (by simp [hy])
    rw [List.flatMap_cons, List.length_append, List.length_cons, Nat.mul_add, Nat.mul_one]
    omega
theorem flat_take {α : Type} (f : α → List Nat) (l : List α) (k : Nat) (x : α) (h : l[k]? = some x) : (l.take (k + 1)).flatMap f = (l.take k).flatMap f ++ f x := by
  rw [List.take_add_one, h, List.flatMap_append]
  simp
theorem schk_zero {s : Sc} (h : schk s = 0) : (1 ≤ s.T ∧ s.T ≤ 256) ∧ (1 ≤ s.M ∧ s.M ≤ 1048576) ∧ (∀ q ∈ s.ps, q.length ≤ 32) ∧ s.ps.length ≤ 8 ∧ s.pl.length ≤ 200 ∧ s.dr.length ≤ 64 ∧ 0 < s.ps.length ∧ ari s.ps.length s.ps = true ∧ ab (-1) 1000 s.pl = true ∧ ab 0 1000 s.dr = true := by
  unfold schk at h
  cases e1 : ((decide (1 ≤ s.T) && decide (s.T ≤ 256)) && (decide (1 ≤ s.M) && decide (s.M ≤ 1048576)))
  · rw [e1] at h; simp at h
  cases e2 : isl s.ps s.pl.length s.dr.length
  rotate_left
  · rw [e1, e2] at h; simp at h
  cases e3 : (!decide (s.ps.length = 0) && ari s.ps.length s.ps)
  · rw [e1, e2, e3] at h; simp at h
  cases e4 : (ab (-1) 1000 s.pl && ab 0 1000 s.dr)
  · rw [e1, e2, e3, e4] at h; simp at h
  rw [Bool.and_eq_true, Bool.and_eq_true, Bool.and_eq_true] at e1
  rw [Bool.and_eq_true] at e3 e4
  rw [isl, Bool.or_eq_false_iff, Bool.or_eq_false_iff, Bool.or_eq_false_iff, List.any_eq_false] at e2
  obtain ⟨⟨a1, a2⟩, a3, a4⟩ := e1
  obtain ⟨b1, ⟨b2, b3⟩, b4⟩ := e2
  obtain ⟨c1, c2⟩ := e3
  simp at a1 a2 a3 a4 b2 b3 b4 c1
  exact ⟨⟨a1, a2⟩, ⟨a3, a4⟩, fun q hq => by have := b1 q hq; simp at this; exact this, b2, b3, b4, by
    cases hps : s.ps with
    | nil => rw [hps] at c1; simp at c1
    | cons x t => simp, c2, e4.1, e4.2⟩

set_option maxRecDepth 100000 in
set_option maxHeartbeats 3200000 in
theorem sencode_no (T M : Int) (ps : List (List OpD)) (pl dr : List Int) (pa la da : Option Addr) (pc lc dc : Nat) (w : World) (hS : SAt w ⟨T, M, ps, pl, dr⟩ pa la da) (x : Int) (hx : schk ⟨T, M, ps, pl, dr⟩ = x) (h0 : (x != 0) = true) :
    Calls Try.prog 15 #[.agg #[.int .i64 T, .int .i64 M, .slice pa ps.length pc, .slice la pl.length lc, .slice da dr.length dc]] w fun r w' => r = .returned (.tuple #[.string (bs []), .int .i64 x]) ∧ Below w.heap.size w w' := by
  have S0 := hide (hS.below (below_alloc w (.cells #[.int .i64 T, .int .i64 M, .slice pa ps.length pc, .slice la pl.length lc, .slice da dr.length dc] 38)))
  have B0 := hide (below_alloc w (.cells #[.int .i64 T, .int .i64 M, .slice pa ps.length pc, .slice la pl.length lc, .slice da dr.length dc] 38))
  have HX := hide hx
  clear hS hx
  go_enter Try.func15, Try.ntmps15
  go_wp2_with fail
  refine (scheck_any T M ps pl dr pa la da pc lc dc _ S0.out).mono ?_
  rw [HX.out]
  rintro r w1 ⟨rfl, b1⟩
  have B1 := hide (btr B0.out b1)
  clear b1
  go_wp2_with fail
  go_ret2
  exact ⟨rfl, B1.out⟩

/-- what the making of a script's bytes keeps: the script, boxed; the builder, and what it holds -/
structure ES (w wr : World) (b : Nat) (v0 v1 v2 v3 v4 : Value) (L : List Nat) : Prop where
  hd : wr.heap[w.heap.size]? = some (.cells #[v0, v1, v2, v3, v4] 38 (0, 0))
  bl : BL wr b (bs L)
  bel : Below w.heap.size w wr
  lt : w.heap.size < b ∧ b < wr.heap.size
theorem ES.below {w wr wr' : World} {b : Nat} {v0 v1 v2 v3 v4 : Value} {L : List Nat} (h : ES w wr b v0 v1 v2 v3 v4 L) (hb : Below wr.heap.size wr wr') : ES w wr' b v0 v1 v2 v3 v4 L :=
  ⟨heap_below h.hd hb, h.bl.below hb, btr h.bel hb, h.lt.1, Nat.lt_of_lt_of_le h.lt.2 hb.size⟩
theorem ES.bk {w wr wr' : World} {b : Nat} {v0 v1 v2 v3 v4 : Value} {L L' : List Nat} (h : ES w wr b v0 v1 v2 v3 v4 L) (k : BK b wr wr') (hl : BL wr' b (bs L')) : ES w wr' b v0 v1 v2 v3 v4 L' :=
  ⟨(k.bel.block _ h.lt.1).trans h.hd, hl, h.bel.trans (k.bel.mono (Nat.le_of_lt h.lt.1)), h.lt.1, Nat.lt_of_lt_of_le h.lt.2 k.bel.size⟩
theorem eop_len (o : OpD) (h : o.cases.length ≤ 4) : (eop o).length ≤ 700 := by
  have h1 := De.pls_len (nums o)
  have h2 := nums_len o h
  unfold eop
  omega
theorem ari_mem {n : Int} {ps : List (List OpD)} (h : ari n ps = true) {q : List OpD} (hq : q ∈ ps) {o : OpD} (ho : o ∈ q) : chk o n = 0 := by
  obtain ⟨k, hk⟩ := List.mem_iff_getElem?.1 hq
  obtain ⟨j, hj⟩ := List.mem_iff_getElem?.1 ho
  exact ari_of h hk hj
theorem ops_len {n : Int} {ps : List (List OpD)} (h : ari n ps = true) {q : List OpD} (hq : q ∈ ps) (h32 : q.length ≤ 32) (j : Nat) : ((q.take j).flatMap eop).length ≤ 22400 := by
  have := flat_len_le eop 700 (q.take j) fun o ho => eop_len o (chk_zero (ari_mem h hq (List.mem_of_mem_take ho))).2.2.1
  have h2 : (q.take j).length ≤ 32 := by rw [List.length_take]; omega
  omega
theorem eps_len {n : Int} {ps : List (List OpD)} (h : ari n ps = true) (h32 : ∀ q ∈ ps, q.length ≤ 32) (h8 : ps.length ≤ 8) (k : Nat) : (eps (ps.take k)).length ≤ 180000 := by
  have := flat_len_le epr 22407 (ps.take k) fun q hq => by
    have h1 := ops_len h (List.mem_of_mem_take hq) (h32 q (List.mem_of_mem_take hq)) q.length
    rw [List.take_length] at h1
    have h2 := (spl_len q.length).2
    rw [epr, List.length_append]
    omega
  have h2 : (ps.take k).length ≤ 8 := by rw [List.length_take]; omega
  show ((ps.take k).flatMap epr).length ≤ _
  omega
theorem plist_len (l : List Int) (n : Nat) (h : l.length ≤ n) : (plist l).length ≤ 7 + 7 * n := by
  have h1 := Re.pls_len l
  have h2 := (spl_len l.length).2
  rw [plist, List.length_append]
  omega
theorem ab_okR {lo hi : Int} {l : List Int} (h : ab lo hi l = true) (h0 : 0 ≤ lo) (h1 : hi ≤ 1099511627776) : l.all okR = true := by
  rw [List.all_eq_true]
  intro x hx
  have := (ab_iff lo hi l).1 h x hx
  rw [okR_iff]
  omega
theorem mv_okR {l : List Int} (h : ab (-1) 1000 l = true) : (mv 1 l).all okR = true := by
  rw [List.all_eq_true]
  intro x hx
  rw [mv, List.mem_map] at hx
  obtain ⟨y, hy, rfl⟩ := hx
  have := (ab_iff (-1) 1000 l).1 h y hy
  rw [okR_iff]
  omega

set_option maxRecDepth 100000 in
set_option maxHeartbeats 3200000 in
theorem sencode_ok (T M : Int) (ps : List (List OpD)) (pl dr : List Int) (pa la da : Option Addr) (pc lc dc : Nat) (w : World) (hS : SAt w ⟨T, M, ps, pl, dr⟩ pa la da) (hx : schk ⟨T, M, ps, pl, dr⟩ = 0) :
    Calls Try.prog 15 #[.agg #[.int .i64 T, .int .i64 M, .slice pa ps.length pc, .slice la pl.length lc, .slice da dr.length dc]] w fun r w' => r = .returned (.tuple #[.string (bs (sen ⟨T, M, ps, pl, dr⟩)), .int .i64 0]) ∧ Below w.heap.size w w' := by
  obtain ⟨t12, m12, h32, h8, h200, h64, h0, har, hap, had⟩ := schk_zero hx
  simp only at t12 m12 h32 h8 h200 h64 h0 har hap had
  have S0 := hide (hS.below (below_alloc w (.cells #[.int .i64 T, .int .i64 M, .slice pa ps.length pc, .slice la pl.length lc, .slice da dr.length dc] 38)))
  have B0 := hide (below_alloc w (.cells #[.int .i64 T, .int .i64 M, .slice pa ps.length pc, .slice la pl.length lc, .slice da dr.length dc] 38))
  have H0 := hide (heap_new w (.cells #[.int .i64 T, .int .i64 M, .slice pa ps.length pc, .slice la pl.length lc, .slice da dr.length dc] 38))
  have HX := hide hx
  have HS := hide hS
  have H32 := hide h32
  have HAR := hide har
  have HAP := hide hap
  have HAD := hide had
  clear hS hx h32 har hap had
  go_enter Try.func15, Try.ntmps15
  go_wp2_with fail
  refine (scheck_any T M ps pl dr pa la da pc lc dc _ S0.out).mono ?_
  rw [HX.out]
  rintro r w1 ⟨rfl, b1⟩
  have s1 := b1.size
  rw [World.size_alloc] at s1
  have B1 := hide (btr (btr B0.out b1) (below_alloc w1 (.cells #[.pointer none, .slice none 0 0] 73)))
  have H1 := hide (heap_below (heap_below H0.out b1) (below_alloc w1 (.cells #[.pointer none, .slice none 0 0] 73)))
  have S1 := hide ((S0.out.below b1).below (below_alloc w1 (.cells #[.pointer none, .slice none 0 0] 73)))
  have L1 : Hid (BL (w1.alloc (.cells #[.pointer none, .slice none 0 0] 73)) w1.heap.size (bs [])) := by
    refine .inl ⟨Nat.le_refl _, .slice none 0 0, heap_new _ _, ?_, by simp [Value.ownBlock]⟩
    exact World.ownsRowF_nil _ _ _ _
  obtain ⟨x0, x1, x2, x3, x4⟩ := sc_cells H1.out
  clear b1
  go_wp2_with fail
  have E1 : Hid (ES w (w1.alloc (.cells #[.pointer none, .slice none 0 0] 73)) w1.heap.size (.int .i64 T) (.int .i64 M) (.slice pa ps.length pc) (.slice la pl.length lc) (.slice da dr.length dc) []) :=
    ⟨H1.out, L1.out, B1.out, by omega, by simp⟩
  have SW : Hid (SAt w ⟨T, M, ps, pl, dr⟩ pa la da) := HS.out
  clear S0 S1 B0 H0 H1 L1 B1 x0 x1 x2 x3 x4
  have G2 := heap_new (w1.alloc (.cells #[.pointer none, .slice none 0 0] 73)) (.cells #[.int .i64 T, .int .i64 M, .int .i64 (ps.length : Int)] 3)
  rw [World.size_alloc] at G2
  have HG2 := hide G2
  clear G2
  generalize w1.heap.size = b at E1 HG2 ⊢
  generalize w1.alloc (.cells #[.pointer none, .slice none 0 0] 73) = W1 at E1 HG2 ⊢
  have E2 := hide (E1.out.below (below_alloc W1 (.cells #[.int .i64 T, .int .i64 M, .int .i64 (ps.length : Int)] 3)))
  have hbW := E1.out.lt
  refine (putNumbers_any b [] (b + 1) [T, M, (ps.length : Int)] 3 _ E2.out.bl E2.out.lt.2 HG2.out (by omega) (Nat.le_refl 3) (by
    intro k hk
    match k, hk with
    | 0, _ => show 0 ≤ T ∧ T ≤ _; omega
    | 1, _ => show 0 ≤ M ∧ M ≤ _; omega
    | 2, _ => show 0 ≤ (ps.length : Int) ∧ (ps.length : Int) ≤ _; omega) (by decide)).mono ?_
  rintro r w3 ⟨rfl, h3, k3⟩
  rw [List.nil_append] at h3
  have E3 := hide (E2.out.bk k3 h3)
  have hL0 := De.pls_len [T, M, (ps.length : Int)]
  obtain ⟨L0, hL⟩ : ∃ L0, De.pls [T, M, (ps.length : Int)] = L0 := ⟨_, rfl⟩
  rw [hL] at E3 hL0
  have HL := hide hL
  simp only [List.length_cons, List.length_nil] at hL0
  obtain ⟨x0, x1, x2, x3, x4⟩ := sc_cells E3.out.hd
  clear h3 k3 E1 E2 hL
  go_wp2_with fail
  go_loopw [29] (fun i wr => ∃ k : Nat, k ≤ ps.length ∧ i = .int .i64 k ∧ ES w wr b (.int .i64 T) (.int .i64 M) (.slice pa ps.length pc) (.slice la pl.length lc) (.slice da dr.length dc) (L0 ++ eps (ps.take k))) (fun i _ => ps.length - (intOf i).toNat)
  case atStart => exact ⟨0, Nat.zero_le _, rfl, by
    rw [List.take_zero, show eps [] = [] from rfl, List.append_nil]
    exact E3.out⟩
  case round =>
    clear E3 x0 x1 x2 x3 x4 hbW
    rename World => w0
    obtain ⟨k, hk, rfl, e4⟩ := hrel
    have E4 := hide e4
    have el := eps_len HAR.out H32.out h8 k
    clear e4
    by_cases hlt : k < ps.length
    · have hlt' : (k : Int) < (ps.length : Int) := by omega
      obtain ⟨q, hq⟩ : ∃ q, ps[k]? = some q := ⟨ps[k], by simp [hlt]⟩
      obtain ⟨pb, off, qa, qc, hpa, hcw, hO, -⟩ := SW.out.ps k q hq
      have hc := cellB hcw E4.out.bel
      subst hpa
      have hqm := List.mem_of_getElem? hq
      have h32q := H32.out q hqm
      have HQ := hide hq
      have HQM := hide hqm
      have HO := hide hO
      clear hq hqm hO hcw
      have E5 := hide (E4.out.below (below_alloc w0 (.cells #[.int .i64 (q.length : Int)] 3)))
      have hbW := E4.out.lt
      go_wp2_with fail
      refine (putNumbers_any b _ w0.heap.size [(q.length : Int)] 1 _ E5.out.bl E5.out.lt.2 (heap_new w0 (.cells #[.int .i64 (q.length : Int)] 3)) (by omega) (show 1 ≤ 3 by decide) (by
        intro k hk
        match k, hk with
        | 0, _ => show 0 ≤ (q.length : Int) ∧ (q.length : Int) ≤ _; omega) (by rw [List.length_append]; omega)).mono ?_
      rintro r w6 ⟨rfl, h6, k6⟩
      have E6 := hide (E5.out.bk k6 h6)
      have hsq : De.pls [(q.length : Int)] = spl q.length := by simp [De.pls]
      rw [hsq] at E6
      have hsl := (spl_len q.length).2
      have EP := hide (show eps (ps.take (k + 1)) = eps (ps.take k) ++ epr q from Sh.flat_take epr ps k q HQ.out)
      obtain ⟨L1, hL1⟩ : ∃ L1, L0 ++ eps (ps.take k) ++ spl q.length = L1 := ⟨_, rfl⟩
      have l1 : L1.length ≤ 200000 := by
        rw [← hL1, List.length_append, List.length_append]
        omega
      rw [hL1] at E6
      have HL1 := hide hL1
      clear h6 k6 E5 hsq E4 hL1 hc
      go_wp2_with fail
      go_loopw [39] (fun i wr => ∃ j : Nat, j ≤ q.length ∧ i = .int .i64 j ∧ ES w wr b (.int .i64 T) (.int .i64 M) (.slice (some ⟨pb, off, none⟩) ps.length pc) (.slice la pl.length lc) (.slice da dr.length dc) (L1 ++ (q.take j).flatMap eop)) (fun i _ => q.length - (intOf i).toNat)
      case atStart => exact ⟨0, Nat.zero_le _, rfl, by
        rw [List.take_zero, List.flatMap_nil, List.append_nil]
        exact E6.out⟩
      case round =>
        clear E6
        obtain ⟨j, hj, rfl, e7⟩ := hrel
        have E7 := hide e7
        have ol := ops_len HAR.out HQM.out h32q j
        clear e7
        by_cases hjl : j < q.length
        · have hjl' : (j : Int) < (q.length : Int) := by omega
          obtain ⟨o, ho⟩ : ∃ o, q[j]? = some o := ⟨q[j], by simp [hjl]⟩
          obtain ⟨b', off', ca, cc, rfl, ⟨y0, y1, y2, y3, y4⟩, hC, hM⟩ := (HO.out.below E7.out.bel) j o ho
          have hz := ari_of HAR.out HQ.out ho
          have hz4 := (chk_zero hz).2.2.1
          have eo := eop_len o hz4
          have OP := hide (Sh.flat_take eop q j o ho)
          have HZ := hide hz
          have E8 := hide (E7.out.below (below_alloc wr (.cells #[.int .i64 o.kind, .int .i64 o.a, .int .i64 o.b, .slice ca o.cases.length cc, .bool o.def_] 24)))
          have C8 := hide (hC.below (below_alloc wr (.cells #[.int .i64 o.kind, .int .i64 o.a, .int .i64 o.b, .slice ca o.cases.length cc, .bool o.def_] 24)))
          obtain ⟨x0, x1, x2, x3, x4⟩ := sc_cells E8.out.hd
          clear ho hC hM hz
          go_wp2_with fail
          refine (encode_ok o ca cc _ _ C8.out hz4 HZ.out (nums_ok HZ.out)).mono ?_
          rintro r w9 ⟨rfl, b9⟩
          have E9 := hide (E8.out.below b9)
          clear b9
          go_wp2_with fail
          refine (write_bs b _ (eop o) _ E9.out.bl (by rw [List.length_append]; omega) E9.out.lt.2).mono ?_
          rintro r wA ⟨⟨m, rfl⟩, hA, kA⟩
          have EA := hide (E9.out.bk kA hA)
          clear hA kA
          go_wp2_with fail
          go_roundw
          case rel => exact ⟨j + 1, by omega, by go_num, by
            rw [OP.out, ← List.append_assoc]
            exact EA.out⟩
          case measure => simp [intOf]; omega
        · have hjl' : ¬ ((j : Int) < (q.length : Int)) := by omega
          go_wp2_with fail
          go_roundw
          case rel => exact ⟨k + 1, by omega, by go_num, by
            have := E7.out
            rw [List.take_of_length_le (by omega)] at this
            rw [EP.out, epr, ← List.append_assoc, ← List.append_assoc, HL1.out]
            exact this⟩
          case measure => simp [intOf]; omega
    · have hlt' : ¬ ((k : Int) < (ps.length : Int)) := by omega
      have E5 := E4.out
      rw [List.take_of_length_le (by omega)] at E5
      rw [List.take_of_length_le (by omega)] at el
      have E6 := hide E5
      obtain ⟨x0, x1, x2, x3, x4⟩ := sc_cells E6.out.hd
      have AP := hide (SW.out.pl.below E6.out.bel)
      have pv := plist_len (mv 1 pl) 200 (by rw [mv_len]; exact h200)
      clear E4 E5
      go_wp2_with fail
      refine (moved_any la pl lc 1 _ AP.out (by omega) (by decide) (fun j hj => by have := ab_nth.1 HAP.out j hj; omega)).mono ?_
      rintro r w7 ⟨rfl, a7, b7⟩
      have E7 := hide (E6.out.below b7)
      have A7 := hide a7
      clear a7 b7
      go_wp2_with fail
      rw [← mv_len 1 pl]
      refine (putList_any b _ _ (mv 1 pl) _ _ E7.out.bl E7.out.lt.2 A7.out (by rw [mv_len]; omega) (mv_okR HAP.out) (by rw [List.length_append]; omega)).mono ?_
      rintro r w8 ⟨rfl, h8', k8⟩
      have E8 := hide (E7.out.bk k8 h8')
      obtain ⟨y0, y1, y2, y3, y4⟩ := sc_cells E8.out.hd
      have AD := hide (SW.out.dr.below E8.out.bel)
      clear h8' k8
      go_wp2_with fail
      refine (putList_any b _ da dr dc _ E8.out.bl E8.out.lt.2 AD.out (by omega) (ab_okR HAD.out (by decide) (by decide)) (by rw [List.length_append, List.length_append]; omega)).mono ?_
      rintro r w9 ⟨rfl, h9, k9⟩
      have E9 := hide (E8.out.bk k9 h9)
      clear h9 k9
      go_wp2_with fail
      refine (string_any b _ _ E9.out.bl (Nat.le_of_lt E9.out.lt.2)).mono ?_
      rintro r wA ⟨rfl, kA⟩
      have BA := hide (E9.out.bel.trans (kA.bel.mono (Nat.le_of_lt E9.out.lt.1)))
      clear kA
      go_wp2_with fail
      go_ret2
      exact ⟨by rw [sen_is HL.out, List.append_assoc, List.append_assoc]; rfl, BA.out⟩
end Sh
end Go.Proofs.Ytocmdehpbipmlaa
/- Package sheet: the reader, over this seat's program. -/
namespace Go.Proofs.Ytocmdehpbipmlaa
open Go.ChangeShapes Go.WideShapes Go.ChangeAt Go.RowKit
namespace Sh
open De Ba Re

/-- a number that is not above m, and how many bytes it has -/
def up1 (m : Int) (L : List Nat) : Option (Nat × Nat) := match tk L with
  | none => none
  | some (n, k) => if (n : Int) ≤ m then some (n, k) else none
/-- the reader in block R: z bytes of s are read; has it failed? -/
def RD2 (w : World) (R : Nat) (s : ByteArray) (z : Nat) (f : Bool) : Prop := w.heap[R]? = some (.cells #[.string (s.extract z s.size), .bool f] 88 (0, 0))
/-- numbers up to limits: what they are, where one stands behind them, has it failed? -/
def ul (s : ByteArray) : List Int → Nat → Bool → List Int × Nat × Bool
  | [], z, f => ([], z, f)
  | m :: t, z, f => match f, up1 m ((nbs s).drop z) with
    | false, some (n, k) => ((n : Int) :: (ul s t (z + k) false).1, (ul s t (z + k) false).2)
    | _, _ => (List.replicate (t.length + 1) 0, z, true)
theorem ul_len (s : ByteArray) (l : List Int) (z : Nat) (f : Bool) : (ul s l z f).1.length = l.length := by
  induction l generalizing z f with
  | nil => rfl
  | cons m t ih =>
    unfold ul
    split
    · simp [ih]
    · simp
theorem ul_t (s : ByteArray) (l : List Int) (z : Nat) (h : l ≠ []) : ul s l z true = (List.replicate l.length 0, z, true) := by
  cases l with
  | nil => exact absurd rfl h
  | cons m t => simp [ul]
theorem ul_n (s : ByteArray) (m : Int) (t : List Int) (z : Nat) (f : Bool) (h : up1 m ((nbs s).drop z) = none) : ul s (m :: t) z f = (List.replicate (t.length + 1) 0, z, true) := by
  cases f <;> simp [ul, h]
theorem ul_s (s : ByteArray) (m : Int) (t : List Int) (z n k : Nat) (h : up1 m ((nbs s).drop z) = some (n, k)) : ul s (m :: t) z false = ((n : Int) :: (ul s t (z + k) false).1, (ul s t (z + k) false).2) := by
  simp [ul, h]
theorem kb_at {R : Nat} {w w' : World} {oa : Option Addr} {l : List Int} (k : De.KB R w w') (h : At w oa l) (hb : ∀ a, oa = some a → a.block ≠ R) : At w' oa l := by
  intro j hj
  obtain ⟨b, off, rfl, hc⟩ := h j hj
  exact ⟨b, off, rfl, kb_cell k hc (hb _ rfl)⟩
theorem up1_n {m : Int} {L : List Nat} (h : tk L = none) : up1 m L = none := by simp [up1, h]
theorem up1_b {m : Int} {L : List Nat} {n k : Nat} (h : tk L = some (n, k)) (hb : m < (n : Int)) : up1 m L = none := by
  simp only [up1, h]
  rw [if_neg (by omega)]
theorem up1_s {m : Int} {L : List Nat} {n k : Nat} (h : tk L = some (n, k)) (hb : (n : Int) ≤ m) : up1 m L = some (n, k) := by
  simp only [up1, h]
  rw [if_pos hb]
theorem set_mid (V : List Int) (n : Nat) (x : Int) (k : Nat) (h : V.length = k) : (V ++ List.replicate (n + 1) 0).set k x = (V ++ [x]) ++ List.replicate n 0 := by
  subst h
  rw [List.replicate_succ, List.set_append_right _ _ (Nat.le_refl _), Nat.sub_self, List.set_cons_zero, List.append_assoc]
  rfl
theorem sfx2 (s : ByteArray) (a b : Nat) : (s.extract a s.size).extract b (s.size - a) = s.extract (a + b) s.size := by
  rw [← sfx_sfx]
  congr 1
  simp [ByteArray.size_extract]
theorem row_set (l : List Int) (k : Nat) (x : Int) : (row l).setIfInBounds k (.int .i64 x) = row (l.set k x) := by
  apply Array.toList_inj.1
  simp [row, List.map_set]

set_option maxRecDepth 100000 in
set_option maxHeartbeats 3200000 in
theorem upTo_any (R : Nat) (s : ByteArray) (z : Nat) (f : Bool) (oa : Option Addr) (l : List Int) (c : Nat) (w : World) (hR : RD2 w R s z f) (hA : At w oa l) (hne : ∀ a, oa = some a → a.block ≠ R) (hl : l.length ≤ 3) (hz : z ≤ s.size) :
    Calls Try.prog 46 #[.pointer (some ⟨R, 0, none⟩), .slice oa l.length c] w fun r w' => r = .returned (.slice (some ⟨w.heap.size, 0, none⟩) l.length l.length) ∧ w'.heap[w.heap.size]? = some (.cells (row (ul s l z f).1) 3 (0, 0)) ∧ (RD2 w' R s (ul s l z f).2.1 (ul s l z f).2.2 ∧ (ul s l z f).2.1 ≤ s.size) ∧ De.KB R w w' := by
  obtain ⟨i0, hi, hz0, hz1, hz2⟩ := info_parts Ba.info_int
  have hm := run_mkG Try.underlying36 hi hz0 w l.length (by rw [hz2]; omega) (by omega)
  have hmc : madeCells (Value.cells (.int .i64 0)) (l.length * i0.size) = row (List.replicate l.length 0) := by
    rw [hz1, Nat.mul_one]
    apply Array.ext
    · simp [row, size_madeCells]
    · intro i h1 h2
      simp [madeCells, row, Value.cells, Nat.mod_one]
  rw [hmc] at hm
  have hRlt := De.heap_lt hR
  have HR := hide (heap_below hR (below_alloc w (.cells (row (List.replicate l.length 0)) 3)))
  have HA := hide hA
  have HG := hide (heap_new w (.cells (row (List.replicate l.length 0)) 3))
  have HK := hide (De.KB.of (R := R) (below_alloc w (.cells (row (List.replicate l.length 0)) 3)))
  have HN := hide hne
  clear hR hA hmc hz0 hz1 hz2 hi hne
  go_enter Try.func46, Try.ntmps46
  go_wp2_with fail
  have hwz : (w.alloc (.cells (row (List.replicate l.length 0)) 3)).heap.size = w.heap.size + 1 := World.size_alloc _ _
  have HW := hide hwz
  clear hwz hm
  generalize w.alloc (.cells (row (List.replicate l.length 0)) 3) = W at HR HG HK HW ⊢
  go_loopw [16] (fun i wr => ∃ (k zk : Nat) (fk : Bool) (V : List Int), k ≤ l.length ∧ i = .int .i64 k ∧ zk ≤ s.size ∧ V.length = k ∧ (RD2 wr R s zk fk ∧ wr.heap[w.heap.size]? = some (.cells (row (V ++ List.replicate (l.length - k) 0)) 3 (0, 0)) ∧ De.KB R w wr) ∧ (ul s l z f).1 = V ++ (ul s (l.drop k) zk fk).1 ∧ (ul s l z f).2 = (ul s (l.drop k) zk fk).2) (fun i _ => l.length - (intOf i).toNat)
  case atStart => exact ⟨0, z, f, [], Nat.zero_le _, rfl, hz, rfl, ⟨HR.out, by simpa using HG.out, HK.out⟩, rfl, rfl⟩
  case round =>
    obtain ⟨k, zk, fk, V, hk, rfl, hzk, hV, ⟨h1, h2, h3⟩, h4, h5⟩ := hrel
    have H1 := hide h1
    have H2 := hide h2
    have H3 := hide h3
    have H4 := hide h4
    have H5 := hide h5
    have c0 := cell_of h1 0
    have c1 := cell_of h1 1
    have f0 := frozen_of h1 0
    have f1 := frozen_of h1 1
    simp at c0 c1
    clear h1 h2 h3 h4 h5 HR HG HK
    by_cases hlt : k < l.length
    · have hlt' : (k : Int) < (l.length : Int) := by omega
      have ed : l.drop k = nth l k :: l.drop (k + 1) := by
        rw [nth_lt l k hlt]
        exact List.drop_eq_getElem_cons hlt
      obtain ⟨lb, lo, rfl, hlc⟩ := (kb_at H3.out HA.out HN.out) k hlt
      have hwR : w.heap.size ≠ R := by omega
      cases ht : tk ((nbs s).drop zk) with
      | none =>
        have HT := hide ht
        have UN := hide (ul_n s (nth l k) (l.drop (k + 1)) zk fk (up1_n ht))
        clear ht
        go_wp2_with fail
        refine (take_none _ (by rw [nsfx rfl]; exact HT.out) _).mono ?_
        rintro r w4 ⟨rfl, b4⟩
        have X1 := hide (heap_below H1.out b4)
        have X3 := hide (H3.out.trans (De.KB.of b4))
        have X2 : Hid ((w4.setCell ⟨R, 1, none⟩ (.bool true)).heap[w.heap.size]? = some (.cells (row (V ++ List.replicate ((l.drop (k + 1)).length + 1) 0)) 3 (0, 0))) := by
          have := (Below.heap_setCell w4 ⟨R, 1, none⟩ (.bool true) w.heap.size hwR).trans (heap_below H2.out b4)
          rw [List.length_drop, show l.length - (k + 1) + 1 = l.length - k by omega]
          exact this
        have d1 := cell_of X1.out 1
        have g1 := frozen_of X1.out 1
        simp at d1
        clear b4
        cases fk
        · go_wp2_with fail
          go_ret
          exact ⟨rfl, by rw [H4.out, ed, UN.out]; exact X2.out, by rw [H5.out, ed, UN.out]; exact ⟨Ba.heap_setCell_same X1.out (i := 1) (.bool true), hzk⟩, X3.out.setCell 1 _⟩
        · go_wp2_with fail
          go_ret
          exact ⟨rfl, by rw [H4.out, ed, UN.out]; exact X2.out, by rw [H5.out, ed, UN.out]; exact ⟨Ba.heap_setCell_same X1.out (i := 1) (.bool true), hzk⟩, X3.out.setCell 1 _⟩
      | some q =>
        obtain ⟨n, kk⟩ := q
        have HT := hide ht
        have hkk := Re.tk_le ht
        have hnb := Re.tk_bound ht
        rw [List.length_drop, nbs_length] at hkk
        cases fk
        · by_cases hn : nth l k < (n : Int)
          · have hn' : decide (nth l k < (n : Int)) = true := by simpa using hn
            have UN := hide (ul_n s (nth l k) (l.drop (k + 1)) zk false (up1_b ht hn))
            clear ht hn
            go_wp2_with fail
            refine (take_some _ n kk (by rw [nsfx rfl]; exact HT.out) _).mono ?_
            rintro r w4 ⟨rfl, b4⟩
            have X1 := hide (heap_below H1.out b4)
            have X3 := hide (H3.out.trans (De.KB.of b4))
            have X2 : Hid ((w4.setCell ⟨R, 1, none⟩ (.bool true)).heap[w.heap.size]? = some (.cells (row (V ++ List.replicate ((l.drop (k + 1)).length + 1) 0)) 3 (0, 0))) := by
              have := (Below.heap_setCell w4 ⟨R, 1, none⟩ (.bool true) w.heap.size hwR).trans (heap_below H2.out b4)
              rw [List.length_drop, show l.length - (k + 1) + 1 = l.length - k by omega]
              exact this
            have d1 := cell_of X1.out 1
            have g1 := frozen_of X1.out 1
            simp at d1
            clear b4
            go_wp2_with fail
            go_ret
            exact ⟨rfl, by rw [H4.out, ed, UN.out]; exact X2.out, by rw [H5.out, ed, UN.out]; exact ⟨Ba.heap_setCell_same X1.out (i := 1) (.bool true), hzk⟩, X3.out.setCell 1 _⟩
          · have hn' : decide (nth l k < (n : Int)) = false := by simpa using hn
            have US := hide (ul_s s (nth l k) (l.drop (k + 1)) zk n kk (up1_s ht (by omega)))
            clear ht hn
            go_wp2_with fail
            refine (take_some _ n kk (by rw [nsfx rfl]; exact HT.out) _).mono ?_
            rintro r w4 ⟨rfl, b4⟩
            have X1 := hide (heap_below H1.out b4)
            have X2 := hide (heap_below H2.out b4)
            have X3 := hide (H3.out.trans (De.KB.of b4))
            have d0 := cell_of X1.out 0
            have d1 := cell_of X1.out 1
            have g0 := frozen_of X1.out 0
            have e0 := frozen_of X2.out k
            have e1 : ∃ v, w4.cell? ⟨w.heap.size, k, none⟩ = some v := by
              rw [cell_of X2.out]
              exact ⟨_, Array.getElem?_eq_getElem (by rw [row_size, List.length_append, List.length_replicate]; omega)⟩
            obtain ⟨v, e1⟩ := e1
            simp at d0 d1
            clear b4
            go_wp2_with fail
            go_roundw
            case rel =>
              refine ⟨k + 1, zk + kk, false, V ++ [(n : Int)], by omega, by go_num, by omega, by simp [hV], ⟨?_, ?_, ?_⟩, ?_, ?_⟩
              · rw [sfx2]
                have Y1 := (Below.heap_setCell w4 ⟨w.heap.size, k, none⟩ (.int .i64 (n : Int)) R (by show R ≠ w.heap.size; omega)).trans X1.out
                exact Ba.heap_setCell_same Y1 (i := 0) _
              · refine (Below.heap_setCell _ ⟨R, 0, none⟩ _ w.heap.size hwR).trans ?_
                rw [Ba.heap_setCell_same X2.out, row_set, show l.length - k = l.length - (k + 1) + 1 by omega, set_mid V _ _ k hV]
              · exact (kb_setCell X3.out (Nat.le_refl _) k _).setCell 0 _
              · rw [H4.out, ed, US.out]
                simp
              · rw [H5.out, ed, US.out]
            case measure => simp [intOf]; omega
        · have UN := hide (ul_t s (nth l k :: l.drop (k + 1)) zk (by simp))
          clear ht
          go_wp2_with fail
          refine (take_some _ n kk (by rw [nsfx rfl]; exact HT.out) _).mono ?_
          rintro r w4 ⟨rfl, b4⟩
          have X1 := hide (heap_below H1.out b4)
          have X3 := hide (H3.out.trans (De.KB.of b4))
          have X2 : Hid ((w4.setCell ⟨R, 1, none⟩ (.bool true)).heap[w.heap.size]? = some (.cells (row (V ++ List.replicate ((nth l k :: l.drop (k + 1)).length) 0)) 3 (0, 0))) := by
            have := (Below.heap_setCell w4 ⟨R, 1, none⟩ (.bool true) w.heap.size hwR).trans (heap_below H2.out b4)
            rw [List.length_cons, List.length_drop, show l.length - (k + 1) + 1 = l.length - k by omega]
            exact this
          have d1 := cell_of X1.out 1
          have g1 := frozen_of X1.out 1
          simp at d1
          clear b4
          go_wp2_with fail
          go_ret
          exact ⟨rfl, by rw [H4.out, ed, UN.out]; exact X2.out, by rw [H5.out, ed, UN.out]; exact ⟨Ba.heap_setCell_same X1.out (i := 1) (.bool true), hzk⟩, X3.out.setCell 1 _⟩
    · have hlt' : ¬ ((k : Int) < (l.length : Int)) := by omega
      obtain rfl : k = l.length := by omega
      have E4 := H4.out
      have E5 := H5.out
      rw [List.drop_length] at E4 E5
      simp only [ul, List.append_nil] at E4 E5
      have G2 := H2.out
      rw [Nat.sub_self, List.replicate_zero, List.append_nil] at G2
      have HG2 := hide G2
      have HE4 := hide E4
      have HE5 := hide E5
      clear E4 E5 G2
      go_wp2_with fail
      go_ret
      exact ⟨rfl, by rw [HE4.out]; exact HG2.out, by rw [HE5.out]; exact ⟨H1.out, hzk⟩, H3.out⟩
end Sh
end Go.Proofs.Ytocmdehpbipmlaa
/- Package sheet: the reader's list and program, over this seat's program. -/
namespace Go.Proofs.Ytocmdehpbipmlaa
open Go.ChangeShapes Go.WideShapes Go.ChangeAt Go.RowKit
namespace Sh
open De Ba Re

theorem tl_err {L : List Nat} {m e : Int} (h : tl L m = .error e) : e = 4 ∨ e = 2 := by
  unfold tl at h
  split at h
  · simp at h; exact .inl h.symm
  · split at h
    · simp at h; exact .inr h.symm
    · split at h
      · simp at h; exact .inl h.symm
      · simp at h
theorem rd_set1 {w : World} {R : Nat} {s : ByteArray} {z : Nat} {f : Bool} (h : RD2 w R s z f) : RD2 (w.setCell ⟨R, 1, none⟩ (.bool true)) R s z true := Ba.heap_setCell_same h (i := 1) _
theorem rd_set0 {w : World} {R : Nat} {s : ByteArray} {z z' : Nat} {f : Bool} (h : RD2 w R s z f) : RD2 (w.setCell ⟨R, 0, none⟩ (.string (s.extract z' s.size))) R s z' f := Ba.heap_setCell_same h (i := 0) _
theorem rd_cells {w : World} {R : Nat} {s : ByteArray} {z : Nat} {f : Bool} (h : RD2 w R s z f) : (w.cell? ⟨R, 0, none⟩ = some (.string (s.extract z s.size)) ∧ w.cell? ⟨R, 1, none⟩ = some (.bool f)) ∧ w.frozen? ⟨R, 0, none⟩ = false ∧ w.frozen? ⟨R, 1, none⟩ = false :=
  ⟨⟨cell_of h 0, cell_of h 1⟩, frozen_of h 0, frozen_of h 1⟩
theorem sx_size (s : ByteArray) (z : Nat) (hs : s.size ≤ 5000000) : (s.extract z s.size).size ≤ 5000000 := by
  rw [ByteArray.size_extract]
  omega
set_option maxHeartbeats 1600000 in
theorem list_no (R : Nat) (s : ByteArray) (z : Nat) (f : Bool) (most : Int) (w : World) (hR : RD2 w R s z f) (hs : s.size ≤ 5000000) (h : f = true ∨ ∃ e, tl ((nbs s).drop z) most = .error e) :
    Calls Try.prog 48 #[.pointer (some ⟨R, 0, none⟩), .int .i64 most] w fun r w' => r = .returned (.slice none 0 0) ∧ RD2 w' R s z true ∧ De.KB R w w' := by
  obtain ⟨⟨c0, c1⟩, f0, f1⟩ := rd_cells hR
  have HR := hide hR
  have hsx := sx_size s z hs
  cases ht : tl ((nbs s).drop z) most with
  | error e =>
    have HT := hide ht
    obtain ⟨e1, e2⟩ : (e == 0) = false ∧ (e != 0) = true := by
      rcases tl_err ht with rfl | rfl <;> decide
    clear ht h hR
    go_enter Try.func48, Try.ntmps48
    go_wp2_with fail
    refine (takelist_err _ most e _ (by rw [nbs_sfx]; exact HT.out) hsx).mono ?_
    rintro r w1 ⟨rfl, b1⟩
    have R1 := hide (heap_below HR.out b1)
    have K1 := hide (De.KB.of (R := R) b1)
    obtain ⟨⟨d0, d1⟩, g0, g1⟩ := rd_cells R1.out
    clear b1
    cases f
    · go_wp2_with fail
      go_ret
      exact ⟨rfl, rd_set1 R1.out, K1.out.setCell 1 _⟩
    · go_wp2_with fail
      go_ret
      exact ⟨rfl, rd_set1 R1.out, K1.out.setCell 1 _⟩
  | ok p =>
    obtain ⟨xs, k⟩ := p
    have hf : f = true := by
      rcases h with h | ⟨e, h⟩
      · exact h
      · rw [ht] at h; cases h
    subst hf
    have HT := hide ht
    clear ht h hR
    go_enter Try.func48, Try.ntmps48
    go_wp2_with fail
    refine (takelist_ok_f _ most xs k _ (by rw [nbs_sfx]; exact HT.out) hsx).mono ?_
    rintro r w1 ⟨b, rfl, _, _, b1⟩
    have R1 := hide (heap_below HR.out b1)
    have K1 := hide (De.KB.of (R := R) b1)
    obtain ⟨⟨d0, d1⟩, g0, g1⟩ := rd_cells R1.out
    clear b1
    go_wp2_with fail
    go_ret
    exact ⟨rfl, rd_set1 R1.out, K1.out.setCell 1 _⟩
set_option maxHeartbeats 1600000 in
theorem list_ok (R : Nat) (s : ByteArray) (z : Nat) (most : Int) (xs : List Int) (k : Nat) (w : World) (hR : RD2 w R s z false) (hs : s.size ≤ 5000000) (h : tl ((nbs s).drop z) most = .ok (xs, k)) :
    Calls Try.prog 48 #[.pointer (some ⟨R, 0, none⟩), .int .i64 most] w fun r w' => ∃ b, r = .returned (.slice (some ⟨b, 0, none⟩) xs.length xs.length) ∧ At w' (some ⟨b, 0, none⟩) xs ∧ w.heap.size ≤ b ∧ RD2 w' R s (z + k) false ∧ De.KB R w w' := by
  obtain ⟨⟨c0, c1⟩, f0, f1⟩ := rd_cells hR
  have hRl := De.heap_lt hR
  have HR := hide hR
  have hsx := sx_size s z hs
  have HT := hide h
  clear h hR
  go_enter Try.func48, Try.ntmps48
  go_wp2_with fail
  refine (takelist_ok_f _ most xs k _ (by rw [nbs_sfx]; exact HT.out) hsx).mono ?_
  rw [sfx_sfx]
  rintro r w1 ⟨b, rfl, a1, l1, b1⟩
  have R1 := hide (heap_below HR.out b1)
  have K1 := hide (De.KB.of (R := R) b1)
  have A1 := hide a1
  obtain ⟨⟨d0, d1⟩, g0, g1⟩ := rd_cells R1.out
  clear b1 a1
  go_wp2_with fail
  go_ret
  exact ⟨b, rfl, kb_at ((De.KB.refl R w1).setCell 0 _) A1.out (fun a e => by cases e; show b ≠ R; omega), l1, rd_set0 R1.out, K1.out.setCell 0 _⟩

/-- the operation with which bytes begin, of p programs, and how many bytes it has -/
def dop (p : Int) (S : ByteArray) : Option (OpD × Nat) := if (rop S false).2.2 = false ∧ chk (rop S false).1 p = 0 then some ((rop S false).1, (eop (rop S false).1).length) else none
/-- so many operations from z on, and where one stands behind them -/
def rops (p : Int) (s : ByteArray) (z : Nat) : Nat → Option (List OpD × Nat)
  | 0 => some ([], z)
  | n + 1 => match rops p s z n with
    | none => none
    | some (l, y) => match dop p (s.extract y s.size) with
      | none => none
      | some (o, k) => some (l ++ [o], y + k)
theorem rops_stop {p : Int} {s : ByteArray} {z j : Nat} {l : List OpD} {y : Nat} (h : rops p s z j = some (l, y)) (hd : dop p (s.extract y s.size) = none) : ∀ n, j < n → rops p s z n = none := by
  intro n hn
  obtain ⟨d, rfl⟩ : ∃ d, n = j + 1 + d := ⟨n - (j + 1), by omega⟩
  clear hn
  induction d with
  | zero => simp [rops, h, hd]
  | succ d ih => rw [← Nat.add_assoc, rops, ih]
theorem rops_next {p : Int} {s : ByteArray} {z j : Nat} {l : List OpD} {y : Nat} {o : OpD} {k : Nat} (h : rops p s z j = some (l, y)) (hd : dop p (s.extract y s.size) = some (o, k)) : rops p s z (j + 1) = some (l ++ [o], y + k) := by
  simp [rops, h, hd]
theorem rops_len {p : Int} {s : ByteArray} {z j : Nat} {l : List OpD} {y : Nat} (h : rops p s z j = some (l, y)) : l.length = j := by
  induction j generalizing l y with
  | zero => simp [rops] at h; simp [h.1.symm]
  | succ j ih =>
    unfold rops at h
    split at h
    · cases h
    · rename_i l' y' h'
      split at h
      · cases h
      · simp at h
        rw [← h.1]
        simp [ih h']
/-- what is left of bytes behind an operation -/
theorem dop_rest {p : Int} {s : ByteArray} {z : Nat} {o : OpD} {k : Nat} (hz : z ≤ s.size) (h : dop p (s.extract z s.size) = some (o, k)) : (rop (s.extract z s.size) false).2.1 = s.extract (z + k) s.size ∧ z + k ≤ s.size ∧ (rop (s.extract z s.size) false).1 = o ∧ chk o p = 0 ∧ (rop (s.extract z s.size) false).2.2 = false := by
  unfold dop at h
  split at h
  · rename_i hc
    obtain ⟨h1, h2⟩ := hc
    generalize hr : rop (s.extract z s.size) false = x at h h1 h2
    obtain ⟨o', R, f⟩ := x
    simp only at h h1 h2
    subst h1
    simp at h
    obtain ⟨rfl, rfl⟩ := h
    have inv := rop_inv hr
    rw [nbs_sfx] at inv
    have hlen := congrArg List.length inv
    rw [List.length_drop, nbs_length, List.length_append] at hlen
    have he : (eop o').length = (De.pls (nums o')).length := rfl
    refine ⟨?_, by omega, rfl, h2, rfl⟩
    apply nbs_inj
    rw [nbs_sfx, ← List.drop_drop, inv, eop, List.drop_left]
  · cases h

theorem cat_kb {R : Nat} {w w' : World} {oa : Option Addr} {l : List Cs} (k : De.KB R w w') (h : CAt w oa l) (hb : ∀ a, oa = some a → a.block ≠ R) : CAt w' oa l := by
  intro j x hj
  obtain ⟨b, off, rfl, h1, h2, h3⟩ := h j x hj
  exact ⟨b, off, rfl, kb_cell k h1 (hb _ rfl), kb_cell k h2 (hb _ rfl), kb_cell k h3 (hb _ rfl)⟩
/-- a row of operations in block g, the cases of each in blocks from N on -/
def OF (w : World) (N g : Nat) (l : List OpD) : Prop :=
  ∀ t o, l[t]? = some o → ∃ ca cc, (w.cell? ⟨g, t * 5, none⟩ = some (.int .i64 o.kind) ∧ w.cell? ⟨g, t * 5 + 1, none⟩ = some (.int .i64 o.a) ∧ w.cell? ⟨g, t * 5 + 2, none⟩ = some (.int .i64 o.b) ∧ w.cell? ⟨g, t * 5 + 3, none⟩ = some (.slice ca o.cases.length cc) ∧ w.cell? ⟨g, t * 5 + 4, none⟩ = some (.bool o.def_)) ∧ CAt w ca o.cases ∧ (∀ a, ca = some a → N ≤ a.block) ∧ o.cases.length ≤ 3000
/-- there is room for n operations in block g -/
def OR (w : World) (g n : Nat) : Prop := (∀ c, c < n * 5 → (w.cell? ⟨g, c, none⟩).isSome = true) ∧ ∀ c, w.frozen? ⟨g, c, none⟩ = false
theorem OF.kb {w w' : World} {N g R : Nat} {l : List OpD} (h : OF w N g l) (k : De.KB R w w') (h1 : R < N) (h2 : g ≠ R) : OF w' N g l := by
  intro t o ht
  obtain ⟨ca, cc, ⟨q0, q1, q2, q3, q4⟩, hC, hN, hl⟩ := h t o ht
  exact ⟨ca, cc, ⟨kb_cell k q0 h2, kb_cell k q1 h2, kb_cell k q2 h2, kb_cell k q3 h2, kb_cell k q4 h2⟩, cat_kb k hC (fun a e => by have := hN a e; omega), hN, hl⟩
theorem OR.kb {w w' : World} {g n R : Nat} (h : OR w g n) (k : De.KB R w w') (hg : g < w.heap.size) (h2 : g ≠ R) : OR w' g n := by
  have hb := k.block g hg h2
  refine ⟨fun c hc => ?_, fun c => ?_⟩
  · have := h.1 c hc
    rw [World.cell?] at this ⊢
    rw [hb]
    exact this
  · have := h.2 c
    rw [World.frozen?] at this ⊢
    rw [hb]
    exact this
theorem OF.at {w : World} {N g : Nat} {l : List OpD} (h : OF w N g l) : OAt w (some ⟨g, 0, none⟩) l := by
  intro k o hk
  obtain ⟨ca, cc, ⟨q0, q1, q2, q3, q4⟩, hC, _, hl⟩ := h k o hk
  refine ⟨g, 0, ca, cc, rfl, ⟨?_, ?_, ?_, ?_, ?_⟩, hC, by unfold maxLen; omega⟩ <;> rw [Nat.zero_add] <;> assumption
theorem OF.store {w : World} {N g n j : Nat} {l : List OpD} (h : OF w N g l) (hr : OR w g n) (hg : g < N) (hl : l.length = j) (hj : j < n) (o : OpD) (ca : Option Addr) (cc : Nat) (hC : CAt w ca o.cases) (hN : ∀ a, ca = some a → N ≤ a.block) (h4 : o.cases.length ≤ 3000) (w' : World) (hw : w' = w.setCells g (j * 5) [.int .i64 o.kind, .int .i64 o.a, .int .i64 o.b, .slice ca o.cases.length cc, .bool o.def_]) : OF w' N g (l ++ [o]) ∧ OR w' g n := by
  subst hw
  have cin := World.cell?_setCells_in g [.int .i64 o.kind, .int .i64 o.a, .int .i64 o.b, .slice ca o.cases.length cc, .bool o.def_] (j * 5) w (fun i hi => hr.1 _ (by simp at hi; omega))
  have cout : ∀ x : Addr, (x.block = g → x.spot = none → x.off < j * 5 ∨ j * 5 + 5 ≤ x.off) → (w.setCells g (j * 5) [.int .i64 o.kind, .int .i64 o.a, .int .i64 o.b, .slice ca o.cases.length cc, .bool o.def_]).cell? x = w.cell? x := World.cell?_setCells_out g [.int .i64 o.kind, .int .i64 o.a, .int .i64 o.b, .slice ca o.cases.length cc, .bool o.def_] (j * 5) w
  have cat : ∀ (ca' : Option Addr) (cs : List Cs), CAt w ca' cs → (∀ a, ca' = some a → N ≤ a.block) → CAt (w.setCells g (j * 5) [.int .i64 o.kind, .int .i64 o.a, .int .i64 o.b, .slice ca o.cases.length cc, .bool o.def_]) ca' cs := by
    intro ca' cs hc hn i x hi
    obtain ⟨b, off, rfl, h1, h2, h3⟩ := hc i x hi
    have hb := hn _ rfl
    simp only at hb
    refine ⟨b, off, rfl, ?_, ?_, ?_⟩ <;> (rw [cout]; assumption; intro e; simp only at e; omega)
  refine ⟨?_, ?_, ?_⟩
  · intro t x ht
    by_cases e : t < l.length
    · rw [List.getElem?_append_left e] at ht
      obtain ⟨ca', cc', ⟨q0, q1, q2, q3, q4⟩, hC', hN', hl'⟩ := h t x ht
      refine ⟨ca', cc', ⟨?_, ?_, ?_, ?_, ?_⟩, cat _ _ hC' hN', hN', hl'⟩ <;> (rw [cout]; assumption; intro _ _; simp only; omega)
    · have ht2 : t = j := by
        have := (List.getElem?_eq_some_iff.1 ht).1
        rw [List.length_append, List.length_cons, List.length_nil] at this
        omega
      subst ht2
      rw [List.getElem?_append_right (by omega), hl, Nat.sub_self] at ht
      simp at ht
      subst ht
      refine ⟨ca, cc, ⟨?_, ?_, ?_, ?_, ?_⟩, cat _ _ hC hN, hN, h4⟩
      · exact cin 0 (by simp)
      · exact cin 1 (by simp)
      · exact cin 2 (by simp)
      · exact cin 3 (by simp)
      · exact cin 4 (by simp)
  · intro c hc
    by_cases e : c < j * 5 ∨ j * 5 + 5 ≤ c
    · rw [cout _ (fun _ _ => e)]
      exact hr.1 c hc
    · have := cin (c - j * 5) (by simp; omega)
      rw [show j * 5 + (c - j * 5) = c by omega] at this
      rw [this]
      rfl
  · intro c
    rw [World.frozen?_setCells]
    exact hr.2 c
end Sh
end Go.Proofs.Ytocmdehpbipmlaa
