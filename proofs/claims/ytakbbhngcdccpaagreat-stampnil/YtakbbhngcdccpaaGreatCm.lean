/- Package clock: trim, duplicate, Of, List, New; and the laws' own Ints, over this seat's program. -/
import Derived.Test.YtakbbhngcdccpaaGreatCk
import Derived.Laws.CopyOwn
import Derived.Laws.MakeOwn
import Derived.Deep.QuietTactic
import Derived.BigQuiet
namespace Go.Proofs.YtakbbhngcdccpaaGreat
open Go.ChangeShapes Go.WideShapes Go.ChangeAt Go.RowKit
namespace Ck

/-- how many numbers are left when the noughts at the end are cut off -/
def tlen : List Int → Nat
  | [] => 0
  | x :: r => if tlen r = 0 ∧ x = 0 then 0 else tlen r + 1
def IsT (l : List Int) (k : Nat) : Prop := k ≤ l.length ∧ (∀ j, k ≤ j → nth l j = 0) ∧ (k = 0 ∨ nth l (k - 1) ≠ 0)
theorem nth_cons_succ (x : Int) (r : List Int) (k : Nat) : nth (x :: r) (k + 1) = nth r k := by simp [nth]
theorem nth_cons_zero (x : Int) (r : List Int) : nth (x :: r) 0 = x := by simp [nth]
theorem tlen_is (l : List Int) : IsT l (tlen l) := by
  induction l with
  | nil => exact ⟨Nat.le_refl _, fun j _ => by simp [nth], .inl rfl⟩
  | cons x r ih =>
    obtain ⟨h1, h2, h3⟩ := ih
    by_cases h : tlen r = 0 ∧ x = 0
    · have e : tlen (x :: r) = 0 := by simp [tlen, h]
      rw [e]
      refine ⟨Nat.zero_le _, fun j _ => ?_, .inl rfl⟩
      cases j with
      | zero => rw [nth_cons_zero]; exact h.2
      | succ j => rw [nth_cons_succ]; exact h2 j (by omega)
    · have e : tlen (x :: r) = tlen r + 1 := by simp only [tlen, if_neg h]
      rw [e]
      refine ⟨by simpa using h1, fun j hj => ?_, .inr ?_⟩
      · cases j with
        | zero => omega
        | succ j => rw [nth_cons_succ]; exact h2 j (by omega)
      · by_cases h0 : tlen r = 0
        · rw [h0, Nat.zero_add, Nat.sub_self, nth_cons_zero]; exact fun hx => h ⟨h0, hx⟩
        · rcases h3 with h3 | h3
          · exact absurd h3 h0
          · have : tlen r + 1 - 1 = (tlen r - 1) + 1 := by omega
            rw [this, nth_cons_succ]; exact h3
theorem IsT.uniq {l : List Int} {k : Nat} (h : IsT l k) : k = tlen l := by
  obtain ⟨_, h2, h3⟩ := h
  obtain ⟨_, g2, g3⟩ := tlen_is l
  by_cases a : k < tlen l
  · rcases g3 with g3 | g3
    · omega
    · exact absurd (h2 (tlen l - 1) (by omega)) g3
  by_cases b : tlen l < k
  · rcases h3 with h3 | h3
    · omega
    · exact absurd (g2 (k - 1) (by omega)) h3
  omega
theorem tlen_le (l : List Int) : tlen l ≤ l.length := (tlen_is l).1
/-- the list without the noughts at its end -/
def trm (l : List Int) : List Int := l.take (tlen l)
theorem trm_length (l : List Int) : (trm l).length = tlen l := by simp [trm, tlen_le]
theorem nth_take (l : List Int) (n k : Nat) (h : k < n) : nth (l.take n) k = nth l k := by simp [nth, h]
theorem nth_trm (l : List Int) (k : Nat) : nth (trm l) k = nth l k := by
  by_cases h : k < tlen l
  · exact nth_take l _ k h
  · rw [nth_out _ _ (by rw [trm_length]; omega), (tlen_is l).2.1 k (by omega)]
theorem At.take {w : World} {oa : Option Addr} {l : List Int} (h : At w oa l) (n : Nat) : At w oa (l.take n) := by
  intro k hk
  have hk' : k < n ∧ k < l.length := by simp at hk; omega
  obtain ⟨b, off, he, hc⟩ := h k hk'.2
  exact ⟨b, off, he, by rw [nth_take l n k hk'.1]; exact hc⟩

theorem ret_slice {a b : Option Addr} {n m c : Nat} (h : a = b) (h2 : n = m) : Ending.returned (.slice a n c) = .returned (.slice b m c) := by rw [h, h2]

set_option maxHeartbeats 800000 in
theorem trim_any (oa : Option Addr) (l : List Int) (c : Nat) (w : World) (hA : At w oa l) (hl : l.length ≤ c) (hc : c ≤ maxLen) :
    Calls Tryz.prog 70 #[.slice oa l.length c] w fun r w' => r = .returned (.slice oa (tlen l) c) ∧ w' = w := by
  unfold maxLen at hc
  go_enter Tryz.func70, Tryz.ntmps70
  go_wp2_with fail
  go_loop [3] (fun i => ∃ k : Nat, k ≤ l.length ∧ i = .int .i64 k ∧ ∀ j, k ≤ j → nth l j = 0) (fun i => (intOf i).toNat)
  case atStart => exact ⟨l.length, Nat.le_refl _, rfl, fun j hj => nth_out l j hj⟩
  case round =>
    obtain ⟨k, hk, rfl, hall⟩ := hrel
    have HA : Hid (∀ j, k ≤ j → nth l j = 0) := hall
    clear hall
    by_cases h0 : k = 0
    · subst h0
      have e : Hid (tlen l = 0) := (IsT.uniq ⟨Nat.zero_le _, HA.out, .inl rfl⟩).symm
      clear HA hA
      go_wp2
      go_ret
      exact ⟨ret_slice rfl e.out.symm, rfl⟩
    · obtain ⟨j, rfl⟩ : ∃ j, k = j + 1 := ⟨k - 1, by omega⟩
      obtain ⟨b, off, rfl, hcell⟩ := hA j (by omega)
      clear hA h0
      by_cases hz : nth l j = 0
      · have hz' : (nth l j == 0) = true := by simpa using hz
        have HZ : Hid (nth l j = 0) := hz
        clear hz
        go_wp2
        go_round
        case rel => exact ⟨j, by omega, by go_num, fun i hi => by
          by_cases e : i = j
          · subst e; exact HZ.out
          · exact HA.out i (by omega)⟩
        case measure => simp [intOf]
      · have hz' : (nth l j == 0) = false := by simpa using hz
        have e : Hid (tlen l = j + 1) := (IsT.uniq ⟨by omega, HA.out, .inr (by simpa using hz)⟩).symm
        clear hz HA
        go_wp2
        go_ret
        exact ⟨ret_slice rfl e.out.symm, rfl⟩

theorem info_int : (Tryz.prog.info? 3).map (fun i => (i.zero, i.size, i.bytes)) = some (some (.int .i64 0), 1, 8) := by kernel_rfl

/-- a row of the numbers l -/
def row (l : List Int) : Array Value := (l.map (Value.int .i64)).toArray
theorem row_size (l : List Int) : (row l).size = l.length := by simp [row]
theorem row_at (l : List Int) (k : Nat) (h : k < l.length) : (row l)[k]? = some (.int .i64 (nth l k)) := by simp [row, nth, h]

theorem setRow_new (w : World) (cur data : Array Value) (t : TypeId) : (w.alloc (.cells cur t)).setRow w.heap.size data = w.alloc (.cells data t) := by
  unfold World.setRow World.alloc
  congr 1
  apply Array.ext
  · simp
  · intro i h1 h2
    simp [Array.getElem_modify, Array.getElem_push]
    split
    · simp_all
    · have : i < w.heap.size := by simp at h1; omega
      simp [this]

theorem heap_new (w : World) (o : Obj) : (w.alloc o).heap[w.heap.size]? = some o := by
  show (w.heap.push o)[w.heap.size]? = some o
  simp

theorem cell_of {w : World} {b : Nat} {cur : Array Value} {t : TypeId} {fr : Nat × Nat} (h : w.heap[b]? = some (.cells cur t fr)) (k : Nat) : w.cell? ⟨b, k, none⟩ = cur[k]? := by
  simp [World.cell?, h]

theorem At.new (w : World) (l : List Int) (t : TypeId) : At (w.alloc (.cells (row l) t)) (some ⟨w.heap.size, 0, none⟩) l := by
  intro k hk
  refine ⟨w.heap.size, 0, rfl, ?_⟩
  rw [Nat.zero_add, ← row_at l k hk]
  exact cell_of (heap_new _ _) k

theorem run_mk (w : World) (n : Nat) (hn : n ≤ 256) : (Instr.makeSlice 27 (.int .i64 (n : Int)) (.int .i64 (n : Int))).run Tryz.prog w = .ok (.slice (some ⟨w.heap.size, 0, none⟩) n n) (w.alloc (.cells (madeCells #[.int .i64 0] n) 3)) := by
  obtain ⟨i0, hi, hz0, hz1, hz2⟩ := info_parts info_int
  have := run_make (P := Tryz.prog) w 27 3 i0 (.int .i64 0) Tryz.underlying27 hi hz0 .i64 .i64 n n (by omega) (Int.le_refl _) (by rw [hz2]; omega) (by omega)
  rw [hz1] at this
  simpa [Value.cells] using this

theorem mk0 : madeCells #[Value.int .i64 0] 0 = #[] := Array.eq_empty_of_size_eq_zero (size_madeCells _ _)
theorem run_cp (w : World) (oa : Option Addr) (l : List Int) (c : Nat) (ty : TypeId) (hA : At w oa l) :
    (Builtin.copy_ #[27, 27] ty #[.slice (some ⟨w.heap.size, 0, none⟩) l.length l.length, .slice oa l.length c]).run Tryz.prog (w.alloc (.cells (madeCells #[.int .i64 0] l.length) 3)) = .ok (goInt l.length) (w.alloc (.cells (row l) 3)) := by
  obtain ⟨i0, hi, hz0, hz1, hz2⟩ := info_parts info_int
  have hsz : (Tryz.prog.info? 3).map (·.size) = some 1 := by simp [hi, hz1]
  by_cases h0 : l.length = 0
  · have e : l = [] := List.eq_nil_of_length_eq_zero h0
    subst e
    have := run_copy_none (P := Tryz.prog) (w.alloc (.cells (madeCells #[.int .i64 0] 0) 3)) 27 27 ty 3 (some ⟨w.heap.size, 0, none⟩) oa 0 0 0 c Tryz.underlying27 hsz rfl
    rw [mk0] at this
    rw [List.length_nil, mk0]
    exact this
  · obtain ⟨b, off, rfl, _⟩ := hA 0 (by omega)
    have hA' := hA.below ((Below.refl w.heap.size w).alloc (Nat.le_refl _) (.cells (madeCells #[.int .i64 0] l.length) 3))
    have := run_copy_row (P := Tryz.prog) (w.alloc (.cells (madeCells #[.int .i64 0] l.length) 3)) 27 27 ty 3 w.heap.size 0 l.length l.length ⟨b, off, none⟩ l.length c (madeCells #[.int .i64 0] l.length) 3 (l.map (Value.int .i64))
      Tryz.underlying27 hsz (heap_new _ _) (by simp) (by
        intro j v hj
        have hjl : j < l.length := by
          have := (List.getElem?_eq_some_iff.1 hj).1
          simpa using this
        obtain ⟨b', off', he, hcell⟩ := hA' j hjl
        simp at he
        obtain ⟨rfl, rfl⟩ := he
        have hv : v = .int .i64 (nth l j) := by
          rw [nth_lt l j hjl]
          simp [hjl] at hj
          exact hj.symm
        rw [hv, ← hcell, Addr.add_lit]) (by simp [size_madeCells]) (by
        intro v hv
        simp at hv
        obtain ⟨n, _, rfl⟩ := hv
        rfl)
    rw [this, setRow_new]
    have hd : (madeCells #[Value.int .i64 0] l.length).toList.drop l.length = [] := by
      apply List.drop_eq_nil_of_le
      simp [size_madeCells]
    simp [row, hd]

set_option maxHeartbeats 800000 in
theorem dup_any (oa : Option Addr) (l : List Int) (c : Nat) (w : World) (hA : At w oa l) (hl : l.length ≤ 256) :
    Calls Tryz.prog 96 #[.slice oa l.length c] w fun r w' => r = .returned (.slice (some ⟨w.heap.size, 0, none⟩) l.length l.length) ∧ w' = w.alloc (.cells (row l) 3) := by
  have hm := run_mk w l.length hl
  have hcp := run_cp w oa l c 3 hA
  clear hA
  go_enter Tryz.func96, Tryz.ntmps96
  go_wp2
  go_ret
  exact ⟨rfl, rfl⟩

theorem dup_n (oa : Option Addr) (l : List Int) (n c : Nat) (hn : l.length = n) (w : World) (hA : At w oa l) (hl : n ≤ 256) :
    Calls Tryz.prog 96 #[.slice oa n c] w fun r w' => r = .returned (.slice (some ⟨w.heap.size, 0, none⟩) n n) ∧ w' = w.alloc (.cells (row l) 3) := by
  subst hn
  exact dup_any oa l c w hA hl

set_option maxHeartbeats 400000 in
theorem isNumber_any (n : Int) (w : World) :
    Calls Tryz.prog 44 #[.int .i64 n] w fun r w' => r = .returned (.bool (decide (0 ≤ n) && decide (n ≤ 1048576))) ∧ w' = w := by
  by_cases h1 : 0 ≤ n <;> by_cases h2 : n ≤ 1048576
  all_goals
    go_enter Tryz.func44, Tryz.ntmps44
    go_wp2
    go_ret
    simp [h1, h2]

def okN (n : Int) : Bool := decide (0 ≤ n) && decide (n ≤ 1048576)
theorem okN_iff (n : Int) : okN n = true ↔ 0 ≤ n ∧ n ≤ 1048576 := by simp [okN]
theorem isNumber_is (n : Int) (x : Bool) (h : okN n = x) (w : World) :
    Calls Tryz.prog 44 #[.int .i64 n] w fun r w' => r = .returned (.bool x) ∧ w' = w := by
  have := isNumber_any n w
  unfold okN at h
  rw [h] at this
  exact this

/-- each a number of a clock -/
def Valid (l : List Int) : Prop := ∀ k, k < l.length → okN (nth l k) = true

end Ck
end Go.Proofs.YtakbbhngcdccpaaGreat
