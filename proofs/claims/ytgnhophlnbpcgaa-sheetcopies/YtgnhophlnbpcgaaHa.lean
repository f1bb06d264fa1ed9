/- Scripts in memory; package sheet: between, allBetween, isLong, areRight, over this seat's program. -/
import Derived.Test.YtgnhophlnbpcgaaDm
import Derived.Test.YtgnhophlnbpcgaaEl
namespace Go.Proofs.Ytgnhophlnbpcgaa
open Go.ChangeShapes Go.WideShapes Go.ChangeAt Go.RowKit
namespace Sh
open De Ba Re

/-- the cells from oa on hold operations -/
def OAt (w : World) (oa : Option Addr) (l : List OpD) : Prop :=
  ∀ k o, l[k]? = some o → ∃ b off ca cc, oa = some ⟨b, off, none⟩ ∧ (w.cell? ⟨b, off + k * 5, none⟩ = some (.int .i64 o.kind) ∧ w.cell? ⟨b, off + k * 5 + 1, none⟩ = some (.int .i64 o.a) ∧ w.cell? ⟨b, off + k * 5 + 2, none⟩ = some (.int .i64 o.b) ∧ w.cell? ⟨b, off + k * 5 + 3, none⟩ = some (.slice ca o.cases.length cc) ∧ w.cell? ⟨b, off + k * 5 + 4, none⟩ = some (.bool o.def_)) ∧ CAt w ca o.cases ∧ o.cases.length ≤ maxLen
theorem cellB {w w' : World} {a : Addr} {v : Value} (h : w.cell? a = some v) (hb : Below w.heap.size w w') : w'.cell? a = some v := (hb.cell (World.block_lt_of_cell? w _ h)).trans h
theorem OAt.below {w w' : World} {oa : Option Addr} {l : List OpD} (h : OAt w oa l) (hb : Below w.heap.size w w') : OAt w' oa l := by
  intro k o hk
  obtain ⟨b, off, ca, cc, he, ⟨h0, h1, h2, h3, h4⟩, hc, hm⟩ := h k o hk
  exact ⟨b, off, ca, cc, he, ⟨cellB h0 hb, cellB h1 hb, cellB h2 hb, cellB h3 hb, cellB h4 hb⟩, hc.below hb, hm⟩
theorem OAt.nil (w : World) (oa : Option Addr) : OAt w oa [] := fun _ _ hk => by simp at hk
/-- the cells from oa on hold programs -/
def PAt (w : World) (oa : Option Addr) (l : List (List OpD)) : Prop :=
  ∀ k p, l[k]? = some p → ∃ b off pa pc, oa = some ⟨b, off, none⟩ ∧ w.cell? ⟨b, off + k, none⟩ = some (.slice pa p.length pc) ∧ OAt w pa p ∧ p.length ≤ maxLen
theorem PAt.below {w w' : World} {oa : Option Addr} {l : List (List OpD)} (h : PAt w oa l) (hb : Below w.heap.size w w') : PAt w' oa l := by
  intro k p hk
  obtain ⟨b, off, pa, pc, he, h0, h1, h2⟩ := h k p hk
  exact ⟨b, off, pa, pc, he, cellB h0 hb, h1.below hb, h2⟩
theorem PAt.nil (w : World) (oa : Option Addr) : PAt w oa [] := fun _ _ hk => by simp at hk

theorem between_any (n lo hi : Int) (w : World) :
    Calls Try.prog 42 #[.int .i64 n, .int .i64 lo, .int .i64 hi] w fun r w' => r = .returned (.bool (decide (lo ≤ n) && decide (n ≤ hi))) ∧ w' = w := by
  cases h : decide (lo ≤ n)
  · go_enter Try.func42, Try.ntmps42
    go_wp2_with fail
    go_ret
    exact ⟨rfl, rfl⟩
  · go_enter Try.func42, Try.ntmps42
    go_wp2_with fail
    go_ret
    exact ⟨rfl, rfl⟩

/-- all from lo to hi -/
def ab (lo hi : Int) (l : List Int) : Bool := l.all fun x => decide (lo ≤ x) && decide (x ≤ hi)
theorem ab_iff (lo hi : Int) (l : List Int) : ab lo hi l = true ↔ ∀ x ∈ l, lo ≤ x ∧ x ≤ hi := by
  simp [ab]
theorem ab_nth {lo hi : Int} {l : List Int} : ab lo hi l = true ↔ ∀ k, k < l.length → lo ≤ nth l k ∧ nth l k ≤ hi := by
  rw [ab_iff]
  constructor
  · intro h k hk
    rw [nth_lt l k hk]
    exact h _ (List.getElem_mem hk)
  · intro h x hx
    obtain ⟨k, hk, rfl⟩ := List.mem_iff_getElem.1 hx
    rw [← nth_lt l k hk]
    exact h k hk
set_option maxHeartbeats 1600000 in
theorem all_any (oa : Option Addr) (l : List Int) (c : Nat) (lo hi : Int) (w : World) (hA : At w oa l) (hl : l.length ≤ maxLen) :
    Calls Try.prog 45 #[.slice oa l.length c, .int .i64 lo, .int .i64 hi] w fun r w' => r = .returned (.bool (ab lo hi l)) ∧ w' = w := by
  have HA := hide hA
  clear hA
  unfold maxLen at hl
  go_enter Try.func45, Try.ntmps45
  go_wp2_with fail
  go_loop [11] (fun i => ∃ k : Nat, k ≤ l.length ∧ i = .int .i64 k ∧ ∀ j, j < k → lo ≤ nth l j ∧ nth l j ≤ hi) (fun i => l.length - (intOf i).toNat)
  case atStart => exact ⟨0, Nat.zero_le _, rfl, fun j hj => absurd hj (Nat.not_lt_zero _)⟩
  case round =>
    obtain ⟨k, hk, rfl, hall⟩ := hrel
    have HE := hide hall
    clear hall
    by_cases hlt : k < l.length
    · obtain ⟨b1, o1, rfl, hc1⟩ := HA.out k hlt
      have hlt' : (k : Int) < (l.length : Int) := by omega
      cases h1 : (decide (lo ≤ nth l k) && decide (nth l k ≤ hi))
      · have HX : Hid (ab lo hi l = false) := by
          show _ = _
          simp at h1
          rw [← Bool.not_eq_true]
          intro e
          have := ab_nth.1 e k hlt
          omega
        go_wp2_with fail
        refine (between_any _ _ _ _).mono ?_
        rw [h1]
        rintro r w1 ⟨rfl, rfl⟩
        go_wp2_with fail
        go_ret
        exact ⟨ret_bool HX.out.symm, rfl⟩
      · have HX : Hid (lo ≤ nth l k ∧ nth l k ≤ hi) := by show _ ∧ _; simpa using h1
        go_wp2_with fail
        refine (between_any _ _ _ _).mono ?_
        rw [h1]
        rintro r w1 ⟨rfl, rfl⟩
        go_wp2_with fail
        go_round
        case rel => exact ⟨k + 1, by omega, by go_num, fun j hj => by
          by_cases e : j = k
          · subst e; exact HX.out
          · exact HE.out j (by omega)⟩
        case measure => simp [intOf]; omega
    · have HX : Hid (ab lo hi l = true) := ab_nth.2 fun j hj => HE.out j (by omega)
      go_wp2_with fail
      go_ret
      exact ⟨ret_bool HX.out.symm, rfl⟩

theorem sc_cells {w : World} {B : Nat} {v0 v1 v2 v3 v4 : Value} {t : TypeId} (h : w.heap[B]? = some (.cells #[v0, v1, v2, v3, v4] t (0, 0))) : w.cell? ⟨B, 0, none⟩ = some v0 ∧ w.cell? ⟨B, 1, none⟩ = some v1 ∧ w.cell? ⟨B, 2, none⟩ = some v2 ∧ w.cell? ⟨B, 3, none⟩ = some v3 ∧ w.cell? ⟨B, 4, none⟩ = some v4 :=
  ⟨cell_of h 0, cell_of h 1, cell_of h 2, cell_of h 3, cell_of h 4⟩
/-- is there too much of it? -/
def isl (ps : List (List OpD)) (p d : Nat) : Bool := ps.any (fun p => decide (32 < p.length)) || (decide (8 < ps.length) || decide (200 < p) || decide (64 < d))
theorem isl_long {ps : List (List OpD)} {p d k : Nat} {q : List OpD} (hk : ps[k]? = some q) (h : 32 < q.length) : isl ps p d = true := by
  have : ps.any (fun p => decide (32 < p.length)) = true := by
    rw [List.any_eq_true]
    exact ⟨q, List.mem_of_getElem? hk, by simpa using h⟩
  simp [isl, this]
theorem isl_short {ps : List (List OpD)} {p d : Nat} (h : ∀ (k : Nat) (q : List OpD), ps[k]? = some q → q.length ≤ 32) : isl ps p d = (decide (8 < ps.length) || decide (200 < p) || decide (64 < d)) := by
  have : ps.any (fun p => decide (32 < p.length)) = false := by
    rw [List.any_eq_false]
    intro q hq
    obtain ⟨k, hk⟩ := List.mem_iff_getElem?.1 hq
    have := h k q hk
    simp
    omega
  simp [isl, this]
set_option maxHeartbeats 1600000 in
theorem isLong_any (T M : Int) (ps : List (List OpD)) (pl dr : List Int) (pa la da : Option Addr) (pc lc dc : Nat) (w : World) (hP : PAt w pa ps) (h1 : ps.length ≤ maxLen) (h2 : pl.length ≤ maxLen) (h3 : dr.length ≤ maxLen) :
    Calls Try.prog 43 #[.agg #[.int .i64 T, .int .i64 M, .slice pa ps.length pc, .slice la pl.length lc, .slice da dr.length dc]] w fun r w' => r = .returned (.bool (isl ps pl.length dr.length)) ∧ Below w.heap.size w w' := by
  have HP := hide (hP.below (below_alloc w (.cells #[.int .i64 T, .int .i64 M, .slice pa ps.length pc, .slice la pl.length lc, .slice da dr.length dc] 38)))
  have BW := hide (below_alloc w (.cells #[.int .i64 T, .int .i64 M, .slice pa ps.length pc, .slice la pl.length lc, .slice da dr.length dc] 38))
  have HB := hide (heap_new w (.cells #[.int .i64 T, .int .i64 M, .slice pa ps.length pc, .slice la pl.length lc, .slice da dr.length dc] 38))
  unfold maxLen at h1 h2 h3
  clear hP
  go_enter Try.func43, Try.ntmps43
  go_wp2_with fail
  generalize w.alloc (.cells #[.int .i64 T, .int .i64 M, .slice pa ps.length pc, .slice la pl.length lc, .slice da dr.length dc] 38) = W at HP HB BW ⊢
  obtain ⟨x0, x1, x2, x3, x4⟩ := sc_cells HB.out
  go_loop [8] (fun i => ∃ k : Nat, k ≤ ps.length ∧ i = .int .i64 k ∧ ∀ (j : Nat) (q : List OpD), j < k → ps[j]? = some q → q.length ≤ 32) (fun i => ps.length - (intOf i).toNat)
  case atStart => exact ⟨0, Nat.zero_le _, rfl, fun j q hj => absurd hj (Nat.not_lt_zero _)⟩
  case round =>
    obtain ⟨k, hk, rfl, hall⟩ := hrel
    have HE := hide hall
    clear hall
    by_cases hlt : k < ps.length
    · have hlt' : (k : Int) < (ps.length : Int) := by omega
      obtain ⟨q, hq⟩ : ∃ q, ps[k]? = some q := ⟨ps[k], by simp [hlt]⟩
      obtain ⟨b, off, qa, qc, rfl, hc, _, hm⟩ := HP.out k q hq
      have HQ := hide hq
      unfold maxLen at hm
      clear hq
      by_cases hl : 32 < q.length
      · have hl' : decide (32 < (q.length : Int)) = true := by simp; omega
        go_wp2_with fail
        go_ret
        exact ⟨ret_bool (isl_long HQ.out hl).symm, BW.out⟩
      · have hl' : decide (32 < (q.length : Int)) = false := by simp; omega
        go_wp2_with fail
        go_round
        case rel => exact ⟨k + 1, by omega, by go_num, fun j r hj hr => by
          by_cases e : j = k
          · subst e; rw [HQ.out] at hr; cases hr; omega
          · exact HE.out j r (by omega) hr⟩
        case measure => simp [intOf]; omega
    · have hlt' : ¬ ((k : Int) < (ps.length : Int)) := by omega
      have HI : Hid (isl ps pl.length dr.length = (decide (8 < ps.length) || decide (200 < pl.length) || decide (64 < dr.length))) := isl_short fun j q hj => HE.out j q (by have := (List.getElem?_eq_some_iff.1 hj).1; omega) hj
      have d1 : decide (8 < (ps.length : Int)) = decide (8 < ps.length) := by rw [decide_eq_decide]; omega
      have d2 : decide (200 < (pl.length : Int)) = decide (200 < pl.length) := by rw [decide_eq_decide]; omega
      have d3 : decide (64 < (dr.length : Int)) = decide (64 < dr.length) := by rw [decide_eq_decide]; omega
      clear HE
      cases e1 : decide (8 < ps.length) <;> cases e2 : decide (200 < pl.length) <;> cases e3 : decide (64 < dr.length) <;> rw [e1] at d1 <;> rw [e2] at d2 <;> rw [e3] at d3 <;> rw [e1, e2, e3] at HI
      all_goals
        clear e1 e2 e3
        go_wp2_with fail
        go_ret
        exact ⟨ret_bool (by rw [HI.out]; rfl), BW.out⟩

/-- are all operations right, of n programs? -/
def ari (n : Int) (ps : List (List OpD)) : Bool := ps.all fun p => p.all fun o => chk o n == 0
theorem ari_no {n : Int} {ps : List (List OpD)} {k j : Nat} {q : List OpD} {o : OpD} (hk : ps[k]? = some q) (hj : q[j]? = some o) (h : (chk o n == 0) = false) : ari n ps = false := by
  rw [← Bool.not_eq_true]
  intro e
  rw [ari, List.all_eq_true] at e
  have := e q (List.mem_of_getElem? hk)
  rw [List.all_eq_true] at this
  have := this o (List.mem_of_getElem? hj)
  rw [h] at this
  cases this
theorem ari_yes {n : Int} {ps : List (List OpD)} (h : ∀ (k : Nat) (q : List OpD), ps[k]? = some q → ∀ (j : Nat) (o : OpD), q[j]? = some o → chk o n = 0) : ari n ps = true := by
  rw [ari, List.all_eq_true]
  intro q hq
  rw [List.all_eq_true]
  intro o ho
  obtain ⟨k, hk⟩ := List.mem_iff_getElem?.1 hq
  obtain ⟨j, hj⟩ := List.mem_iff_getElem?.1 ho
  simp [h k q hk j o hj]
theorem ari_of {n : Int} {ps : List (List OpD)} (h : ari n ps = true) {k j : Nat} {q : List OpD} {o : OpD} (hk : ps[k]? = some q) (hj : q[j]? = some o) : chk o n = 0 := by
  cases e : chk o n == 0
  · rw [ari_no hk hj e] at h; cases h
  · simpa using e

set_option maxRecDepth 100000 in
set_option maxHeartbeats 3200000 in
theorem areRight_any (ps : List (List OpD)) (pa : Option Addr) (pc : Nat) (w : World) (hP : PAt w pa ps) (h1 : ps.length ≤ maxLen) :
    Calls Try.prog 44 #[.slice pa ps.length pc] w fun r w' => r = .returned (.bool (ari ps.length ps)) ∧ Below w.heap.size w w' := by
  have HP := hide hP
  unfold maxLen at h1
  clear hP
  go_enter Try.func44, Try.ntmps44
  go_wp2_with fail
  go_loopw [9] (fun i wr => ∃ k : Nat, k ≤ ps.length ∧ i = .int .i64 k ∧ (∀ (j : Nat) (q : List OpD), j < k → ps[j]? = some q → ∀ (i : Nat) (o : OpD), q[i]? = some o → chk o ps.length = 0) ∧ Below w.heap.size w wr) (fun i _ => ps.length - (intOf i).toNat)
  case atStart => exact ⟨0, Nat.zero_le _, rfl, fun j q hj => absurd hj (Nat.not_lt_zero _), Below.refl _ _⟩
  case round =>
    rename World => w0
    obtain ⟨k, hk, rfl, hall, bw⟩ := hrel
    have HE := hide hall
    have BW := hide bw
    clear hall bw
    by_cases hlt : k < ps.length
    · have hlt' : (k : Int) < (ps.length : Int) := by omega
      obtain ⟨q, hq⟩ : ∃ q, ps[k]? = some q := ⟨ps[k], by simp [hlt]⟩
      obtain ⟨b, off, qa, qc, rfl, hc, hO, hm⟩ := (HP.out.below BW.out) k q hq
      have HQ := hide hq
      have HO := hide hO
      unfold maxLen at hm
      clear hq hO
      go_wp2_with fail
      go_loopw [15] (fun i wr => ∃ j : Nat, j ≤ q.length ∧ i = .int .i64 j ∧ (∀ (t : Nat) (o : OpD), t < j → q[t]? = some o → chk o ps.length = 0) ∧ Below w0.heap.size w0 wr) (fun i _ => q.length - (intOf i).toNat)
      case atStart => exact ⟨0, Nat.zero_le _, rfl, fun j q hj => absurd hj (Nat.not_lt_zero _), Below.refl _ _⟩
      case round =>
        obtain ⟨j, hj, rfl, hall, bw2⟩ := hrel
        have HF := hide hall
        have B2 := hide bw2
        clear hall bw2
        by_cases hjl : j < q.length
        · have hjl' : (j : Int) < (q.length : Int) := by omega
          obtain ⟨o, ho⟩ : ∃ o, q[j]? = some o := ⟨q[j], by simp [hjl]⟩
          obtain ⟨b', off', ca, cc, rfl, ⟨y0, y1, y2, y3, y4⟩, hC, hM⟩ := (HO.out.below B2.out) j o ho
          have HX := hide ho
          have HC := hide hC
          have HM := hide hM
          clear ho hC hM
          have B3 := hide (btr B2.out (below_alloc wr (.cells #[.int .i64 o.kind, .int .i64 o.a, .int .i64 o.b, .slice ca o.cases.length cc, .bool o.def_] 24)))
          have C3 := hide (HC.out.below (below_alloc wr (.cells #[.int .i64 o.kind, .int .i64 o.a, .int .i64 o.b, .slice ca o.cases.length cc, .bool o.def_] 24)))
          cases hz : chk o ps.length == 0
          · have hz' : (chk o ps.length != 0) = true := by simp [bne, hz]
            have HZ := hide hz
            clear hz
            go_wp2_with fail
            refine (check_any o ca cc _ _ C3.out HM.out).mono ?_
            rintro r w4 ⟨rfl, b4⟩
            have B4 := hide (btr B3.out b4)
            clear b4
            go_wp2_with fail
            go_ret
            exact ⟨ret_bool (ari_no HQ.out HX.out HZ.out).symm, btr BW.out B4.out⟩
          · have hz' : (chk o ps.length != 0) = false := by simp [bne, hz]
            have HZ : Hid (chk o ps.length = 0) := by show _ = _; simpa using hz
            clear hz
            go_wp2_with fail
            refine (check_any o ca cc _ _ C3.out HM.out).mono ?_
            rintro r w4 ⟨rfl, b4⟩
            have B4 := hide (btr B3.out b4)
            clear b4
            go_wp2_with fail
            go_roundw
            case rel => exact ⟨j + 1, by omega, by go_num, fun t x ht hx => by
              by_cases e : t = j
              · subst e; rw [HX.out] at hx; cases hx; exact HZ.out
              · exact HF.out t x (by omega) hx, B4.out⟩
            case measure => simp [intOf]; omega
        · have hjl' : ¬ ((j : Int) < (q.length : Int)) := by omega
          go_wp2_with fail
          go_roundw
          case rel =>
            exact ⟨k + 1, by omega, by go_num, fun t r ht hr i o ho => by
              by_cases e : t = k
              · subst e; rw [HQ.out] at hr; cases hr
                exact HF.out i o (by have := (List.getElem?_eq_some_iff.1 ho).1; omega) ho
              · exact HE.out t r (by omega) hr i o ho, btr BW.out B2.out⟩
          case measure => simp [intOf]; omega
    · have hlt' : ¬ ((k : Int) < (ps.length : Int)) := by omega
      go_wp2_with fail
      go_ret
      exact ⟨ret_bool (ari_yes fun t q hq j o ho => HE.out t q (by have := (List.getElem?_eq_some_iff.1 hq).1; omega) hq j o ho).symm, BW.out⟩
end Sh
end Go.Proofs.Ytgnhophlnbpcgaa
