/- Layer 27's laws: turned and backwards, plain; an append to one of two rows of our own. -/
import Derived.Test.YtgmkknaagbjcmaaFwa
import Derived.Lib.AppendZeros
import Derived.Deep.AppendLies
namespace Go.Proofs.Ytgmkknaagbjcmaa
open Go.ChangeShapes Go.WideShapes Go.ChangeAt Go.RowKit
namespace Fw
open Ba Fl

/-- turned as a whole -/
def rf (f : Nat → Int × Int) (t : Int) (i : Nat) : Int × Int := ((f i).1 * dx t - (f i).2 * dy t, (f i).1 * dy t + (f i).2 * dx t)
theorem rf_cases (f : Nat → Int × Int) (t : Int) (i : Nat) : rf f t i = ((f i).1, (f i).2) ∨ rf f t i = (-(f i).2, (f i).1) ∨ rf f t i = (-(f i).1, -(f i).2) ∨ rf f t i = ((f i).2, -(f i).1) := by
  unfold rf dx dy
  by_cases h1 : t = 1
  · subst h1; right; left; simp
  · by_cases h2 : t = 2
    · subst h2; right; right; left; simp
    · by_cases h3 : t = 3
      · subst h3; right; right; right; simp
      · left; simp [h1, h2, h3]
theorem rf_bd {n : Nat} {f : Nat → Int × Int} (h : Bd n f) (t : Int) : Bd n (rf f t) := fun i hi => by
  have := h i hi
  rcases rf_cases f t i with e | e | e | e <;> (rw [e]; simp only; omega)
theorem rf_cross (x y u v d e : Int) (h : d * d + e * e = 1) : (x * d - y * e) * (u * e + v * d) - (x * e + y * d) * (u * d - v * e) = x * v - y * u := by
  have e1 : (x * d - y * e) * (u * e + v * d) - (x * e + y * d) * (u * d - v * e) = (x * v - y * u) * (d * d + e * e) := by
    simp only [Int.sub_mul, Int.mul_sub, Int.add_mul, Int.mul_add]
    have c1 : x * d * (u * e) = x * e * (u * d) := by ac_rfl
    have c2 : x * d * (v * d) = x * v * (d * d) := by ac_rfl
    have c3 : y * e * (u * e) = y * u * (e * e) := by ac_rfl
    have c4 : y * e * (v * d) = y * d * (v * e) := by ac_rfl
    have c5 : x * e * (v * e) = x * v * (e * e) := by ac_rfl
    have c6 : y * d * (u * d) = y * u * (d * d) := by ac_rfl
    omega
  rw [e1, h, Int.mul_one]
theorem d_unit (t : Int) : dx t * dx t + dy t * dy t = 1 := by
  unfold dx dy
  by_cases h1 : t = 1
  · simp [h1]
  · by_cases h2 : t = 2
    · simp [h2]
    · by_cases h3 : t = 3
      · simp [h3]
      · simp [h1, h2, h3]
theorem rf_sum (n : Nat) (f : Nat → Int × Int) (t : Int) (k : Nat) : sm (cr n (rf f t)) k = sm (cr n f) k :=
  sm_congr fun i _ => by unfold cr rf; simp only; exact rf_cross _ _ _ _ _ _ (d_unit t)
/-- backwards -/
def bk (n : Nat) (f : Nat → Int × Int) (i : Nat) : Int × Int := f (n - 1 - i)
theorem bk_bd {n : Nat} {f : Nat → Int × Int} (h : Bd n f) : Bd n (bk n f) := fun i hi => h _ (by omega)
theorem sm_neg (h : Nat → Int) : ∀ k, sm (fun i => -h i) k = -sm h k
  | 0 => rfl
  | k + 1 => by simp only [sm]; rw [sm_neg h k]; omega
theorem sm_shift (h : Nat → Int) : ∀ k, sm h (k + 1) = h 0 + sm (fun i => h (i + 1)) k
  | 0 => by simp [sm]
  | k + 1 => by rw [sm, sm_shift h k]; simp only [sm]; omega
theorem sm_rev : ∀ (k : Nat) (h : Nat → Int), sm (fun i => h (k - 1 - i)) k = sm h k
  | 0, _ => rfl
  | k + 1, h => by
    rw [sm_shift, sm]
    have e : sm (fun i => h (k + 1 - 1 - (i + 1))) k = sm (fun i => h (k - 1 - i)) k := sm_congr fun i hi => by congr 1; omega
    rw [e, sm_rev k h]
    simp only [Nat.add_sub_cancel, Nat.sub_zero]; omega
theorem bk_sum (n : Nat) (f : Nat → Int × Int) : sm (cr n (bk n f)) n = -sm (cr n f) n := by
  cases n with
  | zero => rfl
  | succ m =>
    have e1 : sm (cr (m + 1) (bk (m + 1) f)) (m + 1) = sm (fun i => -cr (m + 1) f (m - 1 - i)) m + -cr (m + 1) f m := by
      rw [sm]
      congr 1
      · refine sm_congr fun i hi => ?_
        unfold cr bk
        rw [Nat.mod_eq_of_lt (by omega : i + 1 < m + 1), Nat.mod_eq_of_lt (by omega : m - 1 - i + 1 < m + 1)]
        rw [show m + 1 - 1 - i = m - 1 - i + 1 from by omega, show m + 1 - 1 - (i + 1) = m - 1 - i from by omega]
        have a1 : (f (m - 1 - i + 1)).1 * (f (m - 1 - i)).2 = (f (m - 1 - i)).2 * (f (m - 1 - i + 1)).1 := Int.mul_comm _ _
        have a2 : (f (m - 1 - i + 1)).2 * (f (m - 1 - i)).1 = (f (m - 1 - i)).1 * (f (m - 1 - i + 1)).2 := Int.mul_comm _ _
        omega
      · unfold cr bk
        rw [Nat.mod_self, show m + 1 - 1 - m = 0 from by omega, show m + 1 - 1 - 0 = m from by omega]
        have a1 : (f 0).1 * (f m).2 = (f m).2 * (f 0).1 := Int.mul_comm _ _
        have a2 : (f 0).2 * (f m).1 = (f m).1 * (f 0).2 := Int.mul_comm _ _
        omega
    rw [e1, sm_neg, sm_rev, sm]
    omega
section
variable {ops : Array Oper} {o : Oper} {a : Act} {w : World} {K : Act → World → Prop} {Q : Exit → Act → World → Prop} {E : Prop}
theorem step_bs (hgd : o.guard = none) (t : TypeId) (len : Nat) (parts : Array (Nat × Operand)) (ho : o.op = .buildSlice t len parts) (ps : Array (Nat × Value)) (hp : (parts.map fun (i, x) => (i, a.eval x)) = ps) (v : Value) (w' : World) (hb : (Instr.buildSlice t len ps).run Try.prog w = .ok v w') (h : K (a.put o.dst v) w') :
    if Region.wanted o (yielded ops a.tmps) = true then Oper.wp Try.prog o a w K Q else E := by
  have hw : Region.wanted o (yielded ops a.tmps) = true := by simp [Region.wanted, hgd]
  rw [if_pos hw]
  unfold Oper.wp execOp
  simp only [ho, hp, Sem.run_bind, hb, Result.andThen_ok]
  exact h
theorem step_app (hgd : o.guard = none) (s x : Operand) (t tn : TypeId)
    (ho : o.op = .call { callee := .builtin .append, args := #[s, x], argTypes := #[t, tn] }) (vs vx : Value) (hs : a.eval s = vs) (hx : a.eval x = vx)
    (v' : Value) (w' : World) (hr : (Builtin.append_ #[t, tn] o.type #[vs, vx]).run Try.prog w = .ok v' w') (h : K (a.put o.dst v') w') :
    if Region.wanted o (yielded ops a.tmps) = true then Oper.wp Try.prog o a w K Q else E := by
  have hw : Region.wanted o (yielded ops a.tmps) = true := by simp [Region.wanted, hgd]
  rw [if_pos hw]
  exact Lib.wp_append_run w s x t tn ho vs vx hs hx v' w' hr h
end
section
variable {ops : Array Oper} {rest : List Oper} {o : Oper} {a : Act} {w : World} {Q : Exit → Act → World → Prop}
theorem wpL_app (hgd : o.guard = none) (s x : Operand) (t tn : TypeId)
    (ho : o.op = .call { callee := .builtin .append, args := #[s, x], argTypes := #[t, tn] }) (vs vx : Value) (hs : a.eval s = vs) (hx : a.eval x = vx)
    (v' : Value) (w' : World) (hr : (Builtin.append_ #[t, tn] o.type #[vs, vx]).run Try.prog w = .ok v' w') (h : wpList Try.prog ops Q rest (a.put o.dst v') w') : wpList Try.prog ops Q (o :: rest) a w :=
  wpList_plain hgd fun _ hK => Lib.wp_append_run w s x t tn ho vs vx hs hx v' w' hr (hK _ _ h)
end
theorem bs_cx (a b : Nat) (w : World) : (Instr.buildSlice 24 1 #[(0, .complex .f64 a b)]).run Try.prog w = .ok (.slice (some ⟨w.heap.size, 0, none⟩) 1 1) (w.alloc (.cells #[.complex .f64 a b] 28)) := by
  simp [go_sem]
/-- two rows of our own lie apart -/
def Dj (v u : Value) : Prop := ∀ k, v.ownBlock = some k → u.ownBlock ≠ some k
theorem Dj.symm {v u : Value} (h : Dj v u) : Dj u v := fun k hk e => h k e hk
/-- one complex number is put behind a row of our own; another one's row lies apart -/
theorem ZR.app {w : World} {base : Nat} {v u : Value} {n m : Nat} {f g h : Nat → Int × Int} (z : ZR w base v n f) (y : ZR w base u m h) (dj : Dj v u) (hn : n ≤ 2000) (hbase : base ≤ w.heap.size) {a b : Nat} (hg : ∀ i, i < n → g i = f i) (h1 : Hi a (g n).1) (h2 : Hi b (g n).2) :
    ∃ oa c w', (Builtin.append_ #[24, 24] 24 #[v, .slice (some ⟨w.heap.size, 0, none⟩) 1 1]).run Try.prog (w.alloc (.cells #[.complex .f64 a b] 28)) = .ok (.slice oa (n + 1) c) w' ∧ ZR w' base (.slice oa (n + 1) c) (n + 1) g ∧ ZR w' base u m h ∧ Dj (.slice oa (n + 1) c) u ∧ Below base w w' := by
  obtain ⟨i0, hi, hz0, hz1, hz2⟩ := info_parts info_cx
  obtain ⟨ws, wl, ow, wh⟩ := z
  obtain ⟨us, ul, uw, uh⟩ := y
  have ow1 := own_below ow (below_alloc w (.cells #[.complex .f64 a b] 28))
  have uw1 := own_below uw (below_alloc w (.cells #[.complex .f64 a b] 28))
  obtain ⟨v', w', hr, ho, hg1, -, hat⟩ := run_append_own_at (P := Try.prog) (w.alloc (.cells #[.complex .f64 a b] 28)) base 24 24 28 i0 (.complex .f64 0 0) 1 16 Try.underlying24 hi hz0 hz1 hz2 rfl (by decide) v n (cv ws) ow1 ⟨w.heap.size, 0, none⟩ 1 1 [.complex .f64 a b] rfl (cell_one_new w _ _) (cv_one [(a, b)]) (by unfold maxLen; omega) (by omega) (by rw [World.size_alloc]; omega)
  obtain ⟨oa, c, rfl⟩ := own_sl ho
  refine ⟨oa, c, w', hr, ZR.mk (f := f) wl wh ho hg h1 h2, ⟨us, ul, ?_, uh⟩, ?_, ?_⟩
  · refine uw1.kept hg1 ?_
    cases hu : u.ownBlock with
    | none => exact .inl rfl
    | some k => exact .inr fun e => dj k e.symm hu
  · intro k hk e
    rcases hat with q | q
    · rw [q] at hk; exact dj k hk e
    · rw [q] at hk
      cases hk
      have := (uw.lt _ e).2
      rw [World.size_alloc] at this
      omega
  · exact ((below_alloc w (.cells #[.complex .f64 a b] 28)).mono hbase).grown hg1 (by rw [World.size_alloc]; omega) (fun x hx => (ow1.lt x hx).1)
end Fw
end Go.Proofs.Ytgmkknaagbjcmaa
