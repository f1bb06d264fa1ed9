/- Layer 27's laws: two traces, one behind the other. -/
import Derived.Test.YtgmkknaagbjcmaaFwb
import Derived.Laws.AppendOwnNone
namespace Go.Proofs.Ytgmkknaagbjcmaa
open Go.ChangeShapes Go.WideShapes Go.ChangeAt Go.RowKit
namespace Fw
open Ba Fl

theorem rot_x (s t : Int) (hs : 0 ≤ s ∧ s < 4) (ht : 0 ≤ t ∧ t < 4) : dx ((s + t) % 4) = dx s * dx t - dy s * dy t ∧ dy ((s + t) % 4) = dx s * dy t + dy s * dx t := by
  rcases (by omega : s = 0 ∨ s = 1 ∨ s = 2 ∨ s = 3) with rfl | rfl | rfl | rfl <;> rcases (by omega : t = 0 ∨ t = 1 ∨ t = 2 ∨ t = 3) with rfl | rfl | rfl | rfl <;> decide +kernel
theorem st_ok (l : List Ev) : 0 ≤ (stI l).2.2 ∧ (stI l).2.2 < 4 := by
  have := (st_bd l l.length (Nat.le_refl _)).2.2
  rwa [List.take_length] at this
theorem stI_app (a : List Ev) : ∀ n (m : List Ev), m.length = n → stI (a ++ m) = ((stI a).1 + (dx (stI a).2.2 * (stI m).1 - dy (stI a).2.2 * (stI m).2.1), (stI a).2.1 + (dx (stI a).2.2 * (stI m).2.1 + dy (stI a).2.2 * (stI m).1), ((stI a).2.2 + (stI m).2.2) % 4)
  | 0, m, h => by
    have : m = [] := List.length_eq_zero_iff.1 h
    subst this
    have := st_ok a
    rw [List.append_nil, show stI [] = (0, 0, 0) from rfl]
    simp only [Int.mul_zero, Int.sub_zero, Int.add_zero]
    rw [Int.emod_eq_of_lt this.1 this.2]
  | n + 1, m, h => by
    obtain ⟨m', e, rfl⟩ : ∃ m' e, m = m' ++ [e] := ⟨m.dropLast, m.getLast (by intro h0; simp [h0] at h), (List.dropLast_concat_getLast _).symm⟩
    rw [List.length_append, List.length_singleton] at h
    rw [← List.append_assoc, stI_snoc, stI_snoc, stI_app a n m' (by omega)]
    have ha := st_ok a
    have hm := st_ok m'
    simp only
    generalize stI a = A at *
    generalize stI m' = M at *
    obtain ⟨x0, y0, t0⟩ := A
    obtain ⟨x, y, t⟩ := M
    simp only at ha hm ⊢
    have hT : ft ((t0 + t) % 4) e = (t0 + ft t e) % 4 := by unfold ft; split <;> omega
    have hf := ft_bd e hm
    have R := rot_x t0 (ft t e) ha hf
    unfold fx fy
    cases hs : skip e
    · simp only [Bool.false_eq_true, if_false, hT, R.1, R.2]
      generalize ft t e = T at *
      generalize 1 + e.g % 4 = s
      refine Prod.ext ?_ (Prod.ext ?_ rfl)
      · simp only [Int.mul_add, Int.sub_mul, ← Int.mul_assoc]; omega
      · simp only [Int.mul_add, Int.add_mul, ← Int.mul_assoc]; omega
    · simp only [if_true, hT]
theorem pl_left (a b : List Ev) (i : Nat) (h : i ≤ a.length) : pl (a ++ b) i = pl a i := by
  unfold pl
  rw [List.take_append_of_le_length h]
theorem pl_right (a b : List Ev) (i : Nat) : pl (a ++ b) (a.length + i) = ((stI a).1 + (dx (stI a).2.2 * (pl b i).1 - dy (stI a).2.2 * (pl b i).2), (stI a).2.1 + (dx (stI a).2.2 * (pl b i).2 + dy (stI a).2.2 * (pl b i).1)) := by
  unfold pl
  rw [List.take_length_add_append, stI_app a _ (b.take i) rfl]
/-- the cells of events -/
def ecs (l : List Ev) : List Value := l.flatMap fun e => (evc e).toList
theorem ecs_app (l m : List Ev) : ecs (l ++ m) = ecs l ++ ecs m := by simp [ecs]
theorem ecs_len : ∀ l : List Ev, (ecs l).length = l.length * 8
  | [] => rfl
  | e :: l => by
    have : ecs (e :: l) = (evc e).toList ++ ecs l := rfl
    rw [this, List.length_append, ecs_len l]
    simp [evc]; omega
theorem ecs_at : ∀ (l : List Ev) (k : Nat) (e : Ev), l[k]? = some e → ∀ j, j < 8 → (ecs l)[k * 8 + j]? = (evc e)[j]?
  | [], _, _, h, _, _ => by simp at h
  | x :: l, 0, e, h, j, hj => by
    simp at h
    subst h
    have : ecs (x :: l) = (evc x).toList ++ ecs l := rfl
    rw [this, Nat.zero_mul, Nat.zero_add, List.getElem?_append_left (by simp [evc]; omega)]
    simp
  | x :: l, k + 1, e, h, j, hj => by
    have : ecs (x :: l) = (evc x).toList ++ ecs l := rfl
    have hl : (evc x).toList.length = 8 := rfl
    rw [this, List.getElem?_append_right (by rw [hl]; omega), hl, show (k + 1) * 8 + j - 8 = k * 8 + j from by omega]
    exact ecs_at l k e (by simpa using h) j hj
theorem ecs_one (l : List Ev) : ∀ u ∈ ecs l, u.oneCell' = true := by
  intro u hu
  obtain ⟨e, -, he⟩ := List.mem_flatMap.1 hu
  simp [evc] at he
  rcases he with rfl | rfl | rfl | rfl | rfl | rfl | rfl | rfl <;> rfl
theorem own_es {w : World} {base : Nat} {v : Value} {l : List Ev} (h : w.ownsRow base 54 8 v l.length (ecs l)) : ∃ oa c, v = .slice oa l.length c ∧ EsAt w oa l := by
  rcases h.2 with ⟨rfl, h0⟩ | ⟨g, cap, cur, rfl, -, hg, h1, -, -, h3⟩
  · have : l = [] := List.length_eq_zero_iff.1 h0
    subst this
    exact ⟨none, 0, rfl, EsAt.nil _ _⟩
  · refine ⟨_, _, rfl, fun k e hk => ⟨g, 0, rfl, fun j hj => ?_⟩⟩
    have hkl : k < l.length := (List.getElem?_eq_some_iff.1 hk).1
    rw [Nat.zero_add, cell_of hg]
    have e1 := ecs_at l k e hk j hj
    rw [← h3, List.getElem?_take, if_pos (by omega)] at e1
    rw [← e1]
    simp
theorem info_ev : (Try.prog.info? 54).map (fun i => (i.zero, i.size, i.bytes)) = some (some (.agg #[.int .i64 0, .int .i64 0, .int .i64 0, .int .i64 0, .int .i64 0, .int .i64 0, .bool false, .bool false]), 8, 56) := by kernel_rfl
theorem run_app_none {w : World} (base : Nat) (t ty e : TypeId) (i : TypeInfo) (size : Nat) (ht : Try.prog.underlying t = some (.slice e)) (hi : Try.prog.info? e = some i)
    (v : Value) (n c : Nat) (xs : List Value) (hown : w.ownsRow base e size v n xs) :
    (Builtin.append_ #[t, t] ty #[v, .slice none 0 c]).run Try.prog w = .ok v w := by
  rcases hown.2 with ⟨rfl, rfl⟩ | ⟨g, cap, cur, rfl, _, _, hnc, _⟩
  · simp [Builtin.append_, run_underlying ht, sizeOf, typeInfo, hi, Builtin.lenOf, Builtin.firstCells]
  · simp [Builtin.append_, run_underlying ht, sizeOf, typeInfo, hi, Builtin.lenOf, Builtin.firstCells, hnc, storeCells]
/-- events are put behind a row of our own -/
theorem app_es {w : World} {base : Nat} {v : Value} {m : List Ev} (ow : w.ownsRow base 54 8 v m.length (ecs m)) (oa : Option Addr) (l : List Ev) (c : Nat) (hA : EsAt w oa l) (h1 : m.length ≤ 1000) (h2 : l.length ≤ 1000) (hbase : base ≤ w.heap.size) :
    ∃ oa' c' w', (Builtin.append_ #[22, 22] 22 #[v, .slice oa l.length c]).run Try.prog w = .ok (.slice oa' (m ++ l).length c') w' ∧ w'.ownsRow base 54 8 (.slice oa' (m ++ l).length c') (m ++ l).length (ecs (m ++ l)) ∧ Below base w w' := by
  obtain ⟨i0, hi, hz0, hz1, hz2⟩ := info_parts info_ev
  cases oa with
  | none =>
    have hl : l = [] := by
      cases l with
      | nil => rfl
      | cons e l => obtain ⟨_, _, h, -⟩ := hA 0 e rfl; cases h
    subst hl
    obtain ⟨oa, c', rfl⟩ := own_sl ow
    rw [List.append_nil]
    exact ⟨oa, c', w, run_app_none base 22 22 54 i0 8 Try.underlying22 hi _ _ c _ ow, ow, Below.refl _ _⟩
  | some ad =>
    have hsp : ∀ j u, (ecs l)[j]? = some u → w.cell? (ad.add j) = some u := by
      intro j u hj
      have hjl : j < l.length * 8 := by
        have := (List.getElem?_eq_some_iff.1 hj).1
        rwa [ecs_len] at this
      obtain ⟨e, he⟩ : ∃ e, l[j / 8]? = some e := ⟨_, List.getElem?_eq_getElem (by omega)⟩
      obtain ⟨b, off, hb, hc⟩ := hA _ e he
      cases hb
      have h8 := ecs_at l _ e he (j % 8) (Nat.mod_lt _ (by decide))
      rw [show j / 8 * 8 + j % 8 = j from by omega, hj] at h8
      rw [Addr.add_lit, h8, ← hc (j % 8) (Nat.mod_lt _ (by decide))]
      congr 2
      omega
    obtain ⟨v', w', hr, ho, hg1, -⟩ := run_append_own (P := Try.prog) w base 22 22 54 i0 _ 8 56 Try.underlying22 hi hz0 hz1 hz2 rfl (by decide) v m.length (ecs m) ow ad l.length c (ecs l) (ecs_len l) hsp (ecs_one l) (by unfold maxLen; omega) (by omega) hbase
    rw [← List.length_append, ← ecs_app] at ho
    obtain ⟨oa', c', rfl⟩ := own_sl ho
    exact ⟨oa', c', w', hr, ho, (Below.refl base w).grown hg1 hbase (fun x hx => (ow.lt x hx).1)⟩
end Fw
end Go.Proofs.Ytgmkknaagbjcmaa
