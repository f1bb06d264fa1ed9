/- slices.IndexFunc and DeleteFunc at isCompact, over this seat's program. -/
import Derived.Test.YtkcbokhkmcmpdaaGreatZjLoom10
import Derived.Lib.Slices
namespace Go.Proofs.YtkcbokhkmcmpdaaGreat
open Go.ChangeShapes Go.WideShapes Go.ChangeAt Go.RowKit
namespace Sh
open De Ba Re

theorem compact_any (n : Int) (w : World) : Calls Tryz.prog 70 #[.int .i64 n] w fun r w' => r = .returned (.bool (n == -1)) ∧ w' = w := by
  go_enter Tryz.func70, Tryz.ntmps70
  go_wp2_with fail
  go_ret
  exact ⟨rfl, rfl⟩
/-- a list without its Compact entries -/
def bar (l : List Int) : List Int := l.filter fun n => !(n == -1)
set_option maxHeartbeats 1600000 in
theorem index_any (L : Nat) (l : List Int) (c : Nat) (w : World) (hA : At w (some ⟨L, 0, none⟩) l) (hl : l.length ≤ 1000000) :
    Calls Tryz.prog 107 #[.slice (some ⟨L, 0, none⟩) l.length c, .func (.func 70) #[] #[]] w fun r w' => (∃ i : Int, r = .returned (.int .i64 i) ∧ ((i = -1 ∧ ∀ k, k < l.length → nth l k ≠ -1) ∨ ∃ k : Nat, i = (k : Int) ∧ k < l.length ∧ nth l k = -1 ∧ ∀ j, j < k → nth l j ≠ -1)) ∧ w' = w := by
  have HA := hide hA
  clear hA
  go_enter Tryz.func107, Tryz.ntmps107
  go_wp2_with fail
  go_loop [8] (fun i => ∃ k : Nat, k ≤ l.length ∧ i = .int .i64 k ∧ ∀ j, j < k → nth l j ≠ -1) (fun i => l.length - (intOf i).toNat)
  case atStart => exact ⟨0, Nat.zero_le _, rfl, fun j hj => absurd hj (Nat.not_lt_zero _)⟩
  case round =>
    obtain ⟨k, hk, rfl, hall⟩ := hrel
    have HE := hide hall
    clear hall
    by_cases hlt : k < l.length
    · have hlt' : (k : Int) < (l.length : Int) := by omega
      obtain ⟨b, off, he, hc⟩ := HA.out k hlt
      cases he
      simp only [Nat.zero_add] at hc
      cases hx : nth l k == -1
      · have HX : Hid (nth l k ≠ -1) := by show _ ≠ _; simpa using hx
        go_wp2_with fail
        refine (compact_any _ _).mono ?_
        rw [hx]
        rintro r w1 ⟨rfl, rfl⟩
        go_wp2_with fail
        go_round
        case rel => exact ⟨k + 1, by omega, by go_num, fun j hj => by
          by_cases e : j = k
          · subst e; exact HX.out
          · exact HE.out j (by omega)⟩
        case measure => simp [intOf]; omega
      · have HX : Hid (nth l k = -1) := by show _ = _; simpa using hx
        go_wp2_with fail
        refine (compact_any _ _).mono ?_
        rw [hx]
        rintro r w1 ⟨rfl, rfl⟩
        go_wp2_with fail
        go_ret
        exact ⟨⟨k, rfl, .inr ⟨k, rfl, hlt, HX.out, HE.out⟩⟩, rfl⟩
    · have hlt' : ¬ ((k : Int) < (l.length : Int)) := by omega
      go_wp2_with fail
      go_ret
      exact ⟨⟨-1, rfl, .inl ⟨rfl, fun j hj => HE.out j (by omega)⟩⟩, rfl⟩
theorem kb_setCells (R : Nat) (w : World) : ∀ (vs : List Value) (o : Nat) (w' : World), De.KB R w w' → De.KB R w (w'.setCells R o vs)
  | [], _, _, h => h
  | v :: vs, o, w', h => kb_setCells R w vs (o + 1) (w'.setCell ⟨R, o, none⟩ v) (h.setCell o v)
theorem bar_all {l : List Int} (h : ∀ k, k < l.length → nth l k ≠ -1) : bar l = l := by
  unfold bar
  rw [List.filter_eq_self]
  intro x hx
  obtain ⟨k, hk, rfl⟩ := List.mem_iff_getElem.1 hx
  have := h k hk
  rw [nth_lt l k hk] at this
  simpa using this
theorem bar_take (l : List Int) (k : Nat) (h : k < l.length) : bar (l.take (k + 1)) = bar (l.take k) ++ (bif nth l k == -1 then [] else [nth l k]) := by
  unfold bar
  rw [List.take_succ_eq_append_getElem h, List.filter_append, nth_lt l k h]
  cases hx : l[k] == -1 <;> simp [hx]
theorem bar_len (l : List Int) (k : Nat) : (bar (l.take k)).length ≤ k := by
  have h1 := List.length_filter_le (fun n : Int => !(n == -1)) (l.take k)
  have h2 := List.length_take_le k l
  unfold bar
  omega
theorem zero_int : ∀ w, (zeroValue 3).run Tryz.prog w = .ok (.int .i64 0) w := fun w => by
  obtain ⟨i0, hi, hz0, _, _⟩ := info_parts Ba.info_int
  simp [zeroValue, typeInfo, hi, hz0]
theorem set_take (cur : List Int) (i : Nat) (x : Int) (h : i < cur.length) : (cur.set i x).take (i + 1) = cur.take i ++ [x] := by
  rw [List.take_set, List.take_succ_eq_append_getElem h, List.set_append_right _ _ (by rw [List.length_take]; omega), List.length_take, Nat.min_eq_left (by omega), Nat.sub_self]
  rfl
theorem nth_set_ne (cur : List Int) (i t : Nat) (x : Int) (h : i ≠ t) : nth (cur.set i x) t = nth cur t := by
  unfold nth
  rw [List.getD_eq_getElem?_getD, List.getD_eq_getElem?_getD, List.getElem?_set_ne h]
set_option maxRecDepth 100000 in
set_option maxHeartbeats 3200000 in
theorem delete_any (L : Nat) (l : List Int) (w : World) (hL : w.heap[L]? = some (.cells (row l) 3 (0, 0))) (hl : l.length ≤ 1000000) :
    Calls Tryz.prog 69 #[.slice (some ⟨L, 0, none⟩) l.length l.length, .func (.func 70) #[] #[]] w fun r w' => r = .returned (.slice (some ⟨L, 0, none⟩) (bar l).length l.length) ∧ At w' (some ⟨L, 0, none⟩) (bar l) ∧ De.KB L w w' := by
  have HL := hide hL
  have HA := hide (Re.At.of hL)
  clear hL
  go_enter Tryz.func69, Tryz.ntmps69
  go_wp2_with fail
  refine (index_any L l _ _ HA.out hl).mono ?_
  rintro r w1 ⟨⟨i, rfl, ⟨rfl, hall⟩ | ⟨k, rfl, hkl, hk1, hkn⟩⟩, rfl⟩
  · have HB := hide (bar_all hall)
    clear hall
    go_wp2_with fail
    go_ret
    exact ⟨by rw [HB.out]; rfl, by rw [HB.out]; exact HA.out, De.KB.refl _ _⟩
  have hne : ((k : Int) == -1) = false := by rw [beq_eq_false_iff_ne]; omega
  have B0 : Hid (bar (l.take (k + 1)) = l.take k) := by
    show _ = _
    rw [bar_take l k hkl, hk1]
    show bar (l.take k) ++ [] = _
    rw [List.append_nil]
    exact bar_all fun j hj => by
      rw [List.length_take] at hj
      rw [nth_take l k j (by omega)]
      exact hkn j (by omega)
  clear hk1 hkn HA
  go_wp2_with fail
  go_loopw [5, 6] (fun a b wr => ∃ (i j : Nat) (cur : List Int), j ≤ l.length ∧ a = .int .i64 i ∧ b = .int .i64 j ∧ (i < j ∧ cur.length = l.length) ∧ wr.heap[L]? = some (.cells (row cur) 3 (0, 0)) ∧ (i = (bar (l.take j)).length ∧ cur.take i = bar (l.take j) ∧ ∀ t, j ≤ t → t < l.length → nth cur t = nth l t) ∧ De.KB L w1 wr) (fun _ b _ => l.length - (intOf b).toNat)
  case atStart => exact ⟨k, k + 1, l, by omega, rfl, by go_num, ⟨by omega, rfl⟩, HL.out, ⟨by rw [B0.out, List.length_take]; omega, by rw [B0.out], fun _ _ _ => rfl⟩, De.KB.refl _ _⟩
  case round =>
    clear B0 HL
    obtain ⟨i, j, cur, hj, rfl, rfl, ⟨hij, hcl⟩, hh, ⟨hi, htk, hrest⟩, kb⟩ := hrel
    have HH := hide hh
    have HI := hide hi
    have HT := hide htk
    have HR := hide hrest
    have KB' := hide kb
    have CL := hide hcl
    clear hh hi htk hrest kb hcl
    by_cases hjl : j < l.length
    · have hjl' : (j : Int) < (l.length : Int) := by omega
      have hil' : (i : Int) < (l.length : Int) := by omega
      have cj : wr.cell? ⟨L, j, none⟩ = some (.int .i64 (nth l j)) := by
        rw [cell_of HH.out, row_at cur j (by rw [CL.out]; omega), HR.out j (Nat.le_refl _) hjl]
      have BT := hide (bar_take l j hjl)
      cases hx : nth l j == -1
      · rw [hx] at BT
        simp only [cond_false] at BT
        obtain ⟨vi, ci⟩ : ∃ v, wr.cell? ⟨L, i, none⟩ = some v := ⟨_, (cell_of HH.out i).trans (Array.getElem?_eq_getElem (by rw [row_size, CL.out]; omega))⟩
        have fi := frozen_of HH.out i
        go_wp2_with fail
        refine (compact_any _ _).mono ?_
        rw [hx]
        rintro r w2 ⟨rfl, rfl⟩
        go_wp2_with fail
        go_roundw
        case rel =>
          refine ⟨i + 1, j + 1, cur.set i (nth l j), by omega, by go_num, by go_num, ⟨by omega, by rw [List.length_set]; exact CL.out⟩, ?_, ⟨?_, ?_, ?_⟩, KB'.out.setCell i _⟩
          · rw [Ba.heap_setCell_same HH.out, row_set]
          · rw [BT.out, List.length_append, ← HI.out]
            rfl
          · rw [set_take cur i _ (by rw [CL.out]; omega), HT.out, BT.out]
          · intro t h1 h2
            rw [nth_set_ne cur i t _ (by omega)]
            exact HR.out t (by omega) h2
        case measure => simp [intOf]; omega
      · rw [hx] at BT
        simp only [cond_true, List.append_nil] at BT
        go_wp2_with fail
        refine (compact_any _ _).mono ?_
        rw [hx]
        rintro r w2 ⟨rfl, rfl⟩
        go_wp2_with fail
        go_roundw
        case rel => exact ⟨i, j + 1, cur, by omega, rfl, by go_num, ⟨by omega, CL.out⟩, HH.out, ⟨by rw [BT.out]; exact HI.out, by rw [BT.out]; exact HT.out, fun t h1 h2 => HR.out t (by omega) h2⟩, KB'.out⟩
        case measure => simp [intOf]; omega
    · have hjl' : ¬ ((j : Int) < (l.length : Int)) := by omega
      have hil : i < l.length := by omega
      have EB := HT.out
      have EI := HI.out
      rw [show l.take j = l from List.take_of_length_le (by omega)] at EB EI
      have HEB := hide EB
      have HEI := hide EI
      clear EB EI HT HI
      have hcl : ∀ ty, (Builtin.clear_ #[23] ty #[.slice (some ⟨L, i, none⟩) (l.length - i) (l.length - i)]).run Tryz.prog wr = .ok (.tuple #[]) (wr.setCells L i (List.replicate (l.length - i) (.int .i64 0))) :=
        fun ty => Lib.run_clear_slice wr _ _ ty _ Tryz.underlying23 zero_int rfl rfl L i _ _ (by omega) (fun t ht => by rw [cell_of HH.out, Array.getElem?_eq_getElem (by rw [row_size, CL.out]; omega)]; rfl) (fun t _ => frozen_of HH.out _)
      have hli : ¬ l.length = i := by omega
      have hin : (i : Int) ≤ (l.length : Int) := by omega
      have hi0 : ((l.length : Int) - (i : Int)) = ((l.length - i : Nat) : Int) := by omega
      have KC := hide (kb_setCells L w1 (List.replicate (l.length - i) (.int .i64 0)) i wr KB'.out)
      have AT : Hid (At (wr.setCells L i (List.replicate (l.length - i) (.int .i64 0))) (some ⟨L, 0, none⟩) (bar l)) := by
        intro t ht
        refine ⟨L, 0, rfl, ?_⟩
        rw [Nat.zero_add, World.cell?_setCells_out L _ i wr ⟨L, t, none⟩ (fun _ _ => .inl (by show t < i; rw [HEI.out]; exact ht)), cell_of HH.out]
        have hti : t < i := by rw [HEI.out]; exact ht
        rw [row_at cur t (by rw [CL.out]; omega), ← HEB.out, nth_take cur i t hti]
      go_wp2_with fail
      go_ret
      exact ⟨by rw [← HEI.out]; rfl, AT.out, KC.out⟩
end Sh
end Go.Proofs.YtkcbokhkmcmpdaaGreat
