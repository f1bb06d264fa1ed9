import Derived.Test.YtekdcfdjohlfcaaZjRs5
import Derived.ChangeKeysEq
import Derived.Laws.StructEq
/- What ReportSteps compares: rows of races, arrays of 256 numbers. -/
namespace Go.Proofs.Ytekdcfdjohlfcaa
open Go.ChangeShapes Go.WideShapes Go.ChangeAt Go.RowKit
namespace Co
open Ck Ce Rep
open Ba (KF Bd Nw hide)
open Ep (tidOf clkOf ownB)

theorem eqQ (a : Rr) (w : World) : (Op.equalIn 10000 70 (.agg (rrV a)) (.agg (rrV a))).run Try.prog w = .ok true w := by
  obtain ⟨t, k, g, c, x, v⟩ := a
  unfold rrV
  simp [go_sem]
theorem fm_get {α : Type} (f : α → List Value) (n : Nat) (hn : ∀ a, (f a).length = n) : ∀ (l : List α) (k : Nat) (r : α), l[k]? = some r → ∀ j, j < n → (l.flatMap f)[k * n + j]? = (f r)[j]?
  | [], k, r, h, _, _ => by simp at h
  | x :: l, 0, r, h, j, hj => by
    simp only [List.getElem?_cons_zero, Option.some.injEq] at h
    subst h
    rw [List.flatMap_cons, Nat.zero_mul, Nat.zero_add, List.getElem?_append_left (by rw [hn]; exact hj)]
  | x :: l, k + 1, r, h, j, hj => by
    rw [List.getElem?_cons_succ] at h
    rw [List.flatMap_cons, List.getElem?_append_right (by rw [hn, Nat.succ_mul]; omega), hn, show (k + 1) * n + j - n = k * n + j by rw [Nat.succ_mul]; omega]
    exact fm_get f n hn l k r h j hj
theorem row_at {w : World} {base : Nat} {e : TypeId} {n : Nat} {oa : Option Addr} {m c : Nat} {α : Type} (f : α → List Value) (hn : ∀ a, (f a).length = n) {l : List α} (h : w.ownsRow base e n (.slice oa m c) l.length (l.flatMap f)) {k : Nat} {r : α} (hk : l[k]? = some r) :
    ∃ g, oa = some ⟨g, 0, none⟩ ∧ ∀ j, j < n → w.cell? ⟨g, k * n + j, none⟩ = (f r)[j]? := by
  have hl : k < l.length := (List.getElem?_eq_some_iff.1 hk).1
  rcases h.2 with ⟨-, q⟩ | ⟨g, cap, cur, q, -⟩
  · omega
  · cases q
    refine ⟨g, rfl, fun j hj => ?_⟩
    have hi : k * n + j < l.length * n := by
      have : (k + 1) * n ≤ l.length * n := Nat.mul_le_mul_right n hl
      rw [Nat.succ_mul] at this; omega
    rw [h.cellAt (k * n + j) hi]
    exact fm_get f n hn l k r hk j hj
theorem owns_sl {w : World} {base size : Nat} {e : TypeId} {v : Value} {n : Nat} {xs : List Value} (h : w.ownsRow base e size v n xs) : ∃ oa c, v = .slice oa n c := by
  rcases h.2 with ⟨rfl, h0⟩ | ⟨g, cap, cur, rfl, -⟩
  · exact ⟨none, 0, by rw [h0]⟩
  · exact ⟨_, _, rfl⟩
theorem rc_at {w : World} {base : Nat} {oa : Option Addr} {m c : Nat} {l : List Rc} (h : w.ownsRow base 73 5 (.slice oa m c) l.length (rcC l)) {k : Nat} {r : Rc} (hk : l[k]? = some r) :
    ∃ g, oa = some ⟨g, 0, none⟩ ∧ w.cell? ⟨g, k * 5, none⟩ = some (.int .i64 r.c) ∧ w.cell? ⟨g, k * 5 + 1, none⟩ = some (.int .i64 r.p) ∧ w.cell? ⟨g, k * 5 + 2, none⟩ = some (.int .i64 r.g) ∧ w.cell? ⟨g, k * 5 + 3, none⟩ = some (.int .i64 r.wi) ∧ w.cell? ⟨g, k * 5 + 4, none⟩ = some (.bool r.wr) := by
  obtain ⟨g, rfl, q⟩ := row_at (fun r => (ra5 r).toList) (fun _ => rfl) h hk
  exact ⟨g, rfl, q 0 (by decide), q 1 (by decide), q 2 (by decide), q 3 (by decide), q 4 (by decide)⟩
theorem qc_at {w : World} {base : Nat} {oa : Option Addr} {m c : Nat} {l : List Rc} (h : w.ownsRow base 70 6 (.slice oa m c) l.length (qcC l)) {k : Nat} {r : Rc} (hk : l[k]? = some r) :
    ∃ g, oa = some ⟨g, 0, none⟩ ∧ w.cell? ⟨g, k * 6, none⟩ = some (.bool true) ∧ w.cell? ⟨g, k * 6 + 1, none⟩ = some (.int .i64 r.c) ∧ w.cell? ⟨g, k * 6 + 2, none⟩ = some (.int .i64 r.p) ∧ w.cell? ⟨g, k * 6 + 3, none⟩ = some (.int .i64 r.g) ∧ w.cell? ⟨g, k * 6 + 4, none⟩ = some (.int .i64 r.wi) ∧ w.cell? ⟨g, k * 6 + 5, none⟩ = some (.bool r.wr) := by
  obtain ⟨g, rfl, q⟩ := row_at (fun r => (rrV ⟨true, r⟩).toList) (fun _ => rfl) h hk
  exact ⟨g, rfl, q 0 (by decide), q 1 (by decide), q 2 (by decide), q 3 (by decide), q 4 (by decide), q 5 (by decide)⟩
/-- arrays of 256 numbers -/
theorem cells_int : Try.prog.cellsOf 3 = 1 := by kernel_rfl
theorem part_ra (F : Nat → Int) (i : Nat) (h : i < 256) (w : World) : (part 3 (ra F) (i * 1)).run Try.prog w = .ok (.int .i64 (F i)) w := by
  have := ra_at F i h
  simp [part, isAgg, run_underlying Try.underlying3, this]
theorem eq_int (d : Nat) (a b : Int) (w : World) : (Op.equalIn (d + 1) 3 (.int .i64 a) (.int .i64 b)).run Try.prog w = .ok (a == b) w := by
  simp [Op.equalIn, run_underlying Try.underlying3]
theorem items_ra (F G : Nat → Int) (w : World) : ∀ (l : List Nat), (∀ i ∈ l, i < 256) → (Op.eqItems 9999 3 1 (ra F) (ra G) l).run Try.prog w = .ok (l.all fun i => F i == G i) w
  | [], _ => by simp [Op.eqItems]
  | x :: l, h => by
    have hx := h x List.mem_cons_self
    have ih := items_ra F G w l (fun i hi => h i (List.mem_cons_of_mem _ hi))
    simp only [Op.eqItems, Sem.run_bind, part_ra F x hx, part_ra G x hx, Result.andThen_ok, eq_int 9998]
    cases hq : (F x == G x)
    · simp [hq]
    · simp [hq, ih]
theorem eqA (F G : Nat → Int) (w : World) : (Op.equalIn 10000 37 (.agg (ra F)) (.agg (ra G))).run Try.prog w = .ok ((List.range 256).all fun i => F i == G i) w := by
  cases hi : Try.prog.info? 3 with
  | none => have q : (Try.prog.info? 3).isSome = true := by kernel_rfl
            rw [hi] at q; cases q
  | some i0 =>
  rw [run_equalIn_array w 9999 _ _ Try.underlying37 hi, cells_int]
  exact items_ra F G w _ (fun i hi => List.mem_range.1 hi)
/-- the reads of both are none together -/
theorem reads_none {st : Cst} {a : Ac} {F : Nat → Int} {tl : Bool} (q : Eqc st a F tl) (g : Gd st) : ((List.range 256).all fun i => F i == nf i) = decide (st.rd.length = 0) := by
  rw [Bool.eq_iff_iff, List.all_eq_true, decide_eq_true_iff]
  constructor
  · intro h
    cases hr : st.rd with
    | nil => rfl
    | cons e l =>
      exfalso
      have he : e ∈ st.rd := by rw [hr]; exact List.mem_cons_self
      have ho := g.ro e he
      have ht := own_tid ho
      have hc := own_clk ho
      have h1 := h (tidOf e).toNat (List.mem_range.2 (by omega))
      have h2 := q.rd e he
      have h3 : F (tidOf e).toNat = nf (tidOf e).toNat := by simpa using h1
      rw [h2] at h3
      have : clkOf e = 0 := h3
      omega
  · intro h i hi
    have hi' := List.mem_range.1 hi
    by_cases h0 : F i = 0
    · rw [h0]; rfl
    · obtain ⟨e, he, -⟩ := q.dr i hi' h0
      rw [List.length_eq_zero_iff.1 h] at he
      cases he
end Co
end Go.Proofs.Ytekdcfdjohlfcaa
