import Derived.Test.YtekdcfdjohlfcaaRows
import Derived.WalkKit
import Derived.ProofKit
import Derived.OpenShut
import Derived.WalkLawsBesides
import Derived.WalkSpells
import Derived.Below
import Derived.Laws.CopyOwn
import Derived.Laws.MakeOwn
import Derived.Deep.QuietTactic
import Derived.BigQuiet
import Derived.WalkMore
import Derived.ScopeJumps
import Derived.Deep.RegionHeld
import Derived.Laws.IdiomStrings
import Derived.Deep.AppendSrc
import Derived.Deep.Slices
import Derived.ShutString
import Derived.ChangeOld
import Derived.Maps.AppendAt
import Derived.Lib.Slices
import Derived.Lib.SliceRun
import Derived.Shelf.Spec.SlicesInsertGrow
/- Package clock, what only reads: Get and Within of clocks that lie in memory, over this seat's program. -/
namespace Go.Proofs.Ytekdcfdjohlfcaa
open Go.ChangeShapes Go.WideShapes Go.ChangeAt Go.RowKit
namespace Ck

/-- the k'th number of a list, 0 behind its end -/
def nth (l : List Int) (k : Nat) : Int := l.getD k 0
theorem nth_out (l : List Int) (k : Nat) (h : l.length ≤ k) : nth l k = 0 := by simp [nth, h]
theorem nth_lt (l : List Int) (k : Nat) (h : k < l.length) : nth l k = l[k] := by simp [nth, h]
/-- a tid's number -/
def gt (l : List Int) (t : Int) : Int := if t < 0 then 0 else nth l t.toNat
theorem gt_neg (l : List Int) (t : Int) (h : t < 0) : gt l t = 0 := by simp [gt, h]
theorem gt_nat (l : List Int) (k : Nat) : gt l (k : Int) = nth l k := by
  have : ¬ ((k : Int) < 0) := by omega
  simp [gt, this]

/-- the cells from oa on hold l -/
def At (w : World) (oa : Option Addr) (l : List Int) : Prop :=
  ∀ k, k < l.length → ∃ b off, oa = some ⟨b, off, none⟩ ∧ w.cell? ⟨b, off + k, none⟩ = some (.int .i64 (nth l k))

theorem At.ways {w : World} {oa : Option Addr} {l : List Int} (h : At w oa l) :
    l = [] ∨ ∃ b off, oa = some ⟨b, off, none⟩ ∧ ∀ k, k < l.length → w.cell? ⟨b, off + k, none⟩ = some (.int .i64 (nth l k)) := by
  by_cases h0 : l.length = 0
  · left; exact List.eq_nil_of_length_eq_zero h0
  · right
    obtain ⟨b, off, rfl, _⟩ := h 0 (by omega)
    refine ⟨b, off, rfl, fun k hk => ?_⟩
    obtain ⟨b', off', he, hc⟩ := h k hk
    simp at he
    obtain ⟨rfl, rfl⟩ := he
    exact hc

/-- a clock of the numbers l lies in block b: what a reader sees -/
def CK (w : World) (b : Nat) (l : List Int) : Prop :=
  ∃ oa c s, w.cell? ⟨b, 0, none⟩ = some (.slice oa l.length c) ∧ w.cell? ⟨b, 1, none⟩ = some (.bool s) ∧ At w oa l ∧ l.length ≤ 256

theorem At.below {w w' : World} {oa : Option Addr} {l : List Int} (h : At w oa l) (hb : Below w.heap.size w w') : At w' oa l := by
  intro k hk
  obtain ⟨b, off, he, hc⟩ := h k hk
  exact ⟨b, off, he, (hb.cell (World.block_lt_of_cell? w _ hc)).trans hc⟩

theorem CK.below {w w' : World} {b : Nat} {l : List Int} (h : CK w b l) (hb : Below w.heap.size w w') : CK w' b l := by
  obtain ⟨oa, c, s, h0, h1, h2, h3⟩ := h
  exact ⟨oa, c, s, (hb.cell (World.block_lt_of_cell? w _ h0)).trans h0, (hb.cell (World.block_lt_of_cell? w _ h1)).trans h1, h2.below hb, h3⟩

theorem CK.lt {w : World} {b : Nat} {l : List Int} (h : CK w b l) : b < w.heap.size := by
  obtain ⟨oa, c, s, h0, _⟩ := h
  exact World.block_lt_of_cell? w _ h0

set_option maxHeartbeats 400000 in
theorem get_nil (t : Int) (w : World) :
    Calls Try.prog 71 #[.pointer none, .int .i64 t] w fun r w' => r = .returned (.int .i64 0) ∧ w' = w := by
  go_enter Try.func71, Try.ntmps71
  go_wp2
  go_ret
  exact ⟨rfl, rfl⟩

theorem ret_int {a b : Int} (h : a = b) : Ending.returned (.int .i64 a) = .returned (.int .i64 b) := by rw [h]

set_option maxHeartbeats 400000 in
theorem get_any (b : Nat) (l : List Int) (t : Int) (w : World) (h : CK w b l) :
    Calls Try.prog 71 #[.pointer (some ⟨b, 0, none⟩), .int .i64 t] w fun r w' => r = .returned (.int .i64 (gt l t)) ∧ w' = w := by
  obtain ⟨oa, c, s, h0, _, h2, h3⟩ := h
  by_cases ht : t < 0
  · rw [gt_neg l t ht]
    go_enter Try.func71, Try.ntmps71
    go_wp2
    go_ret
    exact ⟨rfl, rfl⟩
  obtain ⟨k, rfl⟩ := Int.eq_ofNat_of_zero_le (by omega : 0 ≤ t)
  rw [gt_nat]
  clear ht
  by_cases hk : k < l.length
  · obtain ⟨b', off, rfl, hc⟩ := h2 k hk
    have hk' : (k : Int) < (l.length : Int) := by omega
    go_enter Try.func71, Try.ntmps71
    go_wp2
    go_ret
    exact ⟨rfl, rfl⟩
  · rw [nth_out l k (by omega)]
    have hk' : (l.length : Int) ≤ (k : Int) := by omega
    go_enter Try.func71, Try.ntmps71
    go_wp2
    go_ret
    exact ⟨rfl, rfl⟩

def within (l m : List Int) : Bool := decide (∀ k, k < l.length → nth l k ≤ nth m k)
theorem within_no (l m : List Int) (k : Nat) (hk : k < l.length) (h : nth m k < nth l k) : within l m = false := by
  simp only [within, decide_eq_false_iff_not]
  intro hh
  have := hh k hk
  omega
theorem within_yes (l m : List Int) (h : ∀ k, k < l.length → nth l k ≤ nth m k) : within l m = true := by simpa [within] using h
theorem ret_bool {a b : Bool} (h : a = b) : Ending.returned (.bool a) = .returned (.bool b) := by rw [h]

end Ck
end Go.Proofs.Ytekdcfdjohlfcaa
/- Package clock: trim, duplicate, Of, List, New; and the laws' own Ints, over this seat's program. -/
namespace Go.Proofs.Ytekdcfdjohlfcaa
open Go.ChangeShapes Go.WideShapes Go.ChangeAt Go.RowKit
namespace Ck

/-- how many numbers are left when the noughts at the end are cut off -/
def tlen : List Int → Nat
  | [] => 0
  | x :: r => if tlen r = 0 ∧ x = 0 then 0 else tlen r + 1
def IsT (l : List Int) (k : Nat) : Prop := k ≤ l.length ∧ (∀ j, k ≤ j → nth l j = 0) ∧ (k = 0 ∨ nth l (k - 1) ≠ 0)
theorem nth_cons_succ (x : Int) (r : List Int) (k : Nat) : nth (x :: r) (k + 1) = nth r k := by simp [nth]
theorem nth_cons_zero (x : Int) (r : List Int) : nth (x :: r) 0 = x := by simp [nth]
theorem tlen_is (l : List Int) : IsT l (tlen l) := by
  induction l with
  | nil => exact ⟨Nat.le_refl _, fun j _ => by simp [nth], .inl rfl⟩
  | cons x r ih =>
    obtain ⟨h1, h2, h3⟩ := ih
    by_cases h : tlen r = 0 ∧ x = 0
    · have e : tlen (x :: r) = 0 := by simp [tlen, h]
      rw [e]
      refine ⟨Nat.zero_le _, fun j _ => ?_, .inl rfl⟩
      cases j with
      | zero => rw [nth_cons_zero]; exact h.2
      | succ j => rw [nth_cons_succ]; exact h2 j (by omega)
    · have e : tlen (x :: r) = tlen r + 1 := by simp only [tlen, if_neg h]
      rw [e]
      refine ⟨by simpa using h1, fun j hj => ?_, .inr ?_⟩
      · cases j with
        | zero => omega
        | succ j => rw [nth_cons_succ]; exact h2 j (by omega)
      · by_cases h0 : tlen r = 0
        · rw [h0, Nat.zero_add, Nat.sub_self, nth_cons_zero]; exact fun hx => h ⟨h0, hx⟩
        · rcases h3 with h3 | h3
          · exact absurd h3 h0
          · have : tlen r + 1 - 1 = (tlen r - 1) + 1 := by omega
            rw [this, nth_cons_succ]; exact h3
theorem IsT.uniq {l : List Int} {k : Nat} (h : IsT l k) : k = tlen l := by
  obtain ⟨_, h2, h3⟩ := h
  obtain ⟨_, g2, g3⟩ := tlen_is l
  by_cases a : k < tlen l
  · rcases g3 with g3 | g3
    · omega
    · exact absurd (h2 (tlen l - 1) (by omega)) g3
  by_cases b : tlen l < k
  · rcases h3 with h3 | h3
    · omega
    · exact absurd (g2 (k - 1) (by omega)) h3
  omega
theorem tlen_le (l : List Int) : tlen l ≤ l.length := (tlen_is l).1
/-- the list without the noughts at its end -/
def trm (l : List Int) : List Int := l.take (tlen l)
theorem trm_length (l : List Int) : (trm l).length = tlen l := by simp [trm, tlen_le]
theorem nth_take (l : List Int) (n k : Nat) (h : k < n) : nth (l.take n) k = nth l k := by simp [nth, h]
theorem nth_trm (l : List Int) (k : Nat) : nth (trm l) k = nth l k := by
  by_cases h : k < tlen l
  · exact nth_take l _ k h
  · rw [nth_out _ _ (by rw [trm_length]; omega), (tlen_is l).2.1 k (by omega)]
theorem At.take {w : World} {oa : Option Addr} {l : List Int} (h : At w oa l) (n : Nat) : At w oa (l.take n) := by
  intro k hk
  have hk' : k < n ∧ k < l.length := by simp at hk; omega
  obtain ⟨b, off, he, hc⟩ := h k hk'.2
  exact ⟨b, off, he, by rw [nth_take l n k hk'.1]; exact hc⟩

theorem ret_slice {a b : Option Addr} {n m c : Nat} (h : a = b) (h2 : n = m) : Ending.returned (.slice a n c) = .returned (.slice b m c) := by rw [h, h2]

set_option maxHeartbeats 800000 in
theorem trim_any (oa : Option Addr) (l : List Int) (c : Nat) (w : World) (hA : At w oa l) (hl : l.length ≤ c) (hc : c ≤ maxLen) :
    Calls Try.prog 35 #[.slice oa l.length c] w fun r w' => r = .returned (.slice oa (tlen l) c) ∧ w' = w := by
  unfold maxLen at hc
  go_enter Try.func35, Try.ntmps35
  go_wp2_with fail
  go_loop [3] (fun i => ∃ k : Nat, k ≤ l.length ∧ i = .int .i64 k ∧ ∀ j, k ≤ j → nth l j = 0) (fun i => (intOf i).toNat)
  case atStart => exact ⟨l.length, Nat.le_refl _, rfl, fun j hj => nth_out l j hj⟩
  case round =>
    obtain ⟨k, hk, rfl, hall⟩ := hrel
    have HA : Hid (∀ j, k ≤ j → nth l j = 0) := hall
    clear hall
    by_cases h0 : k = 0
    · subst h0
      have e : Hid (tlen l = 0) := (IsT.uniq ⟨Nat.zero_le _, HA.out, .inl rfl⟩).symm
      clear HA hA
      go_wp2
      go_ret
      exact ⟨ret_slice rfl e.out.symm, rfl⟩
    · obtain ⟨j, rfl⟩ : ∃ j, k = j + 1 := ⟨k - 1, by omega⟩
      obtain ⟨b, off, rfl, hcell⟩ := hA j (by omega)
      clear hA h0
      by_cases hz : nth l j = 0
      · have hz' : (nth l j == 0) = true := by simpa using hz
        have HZ : Hid (nth l j = 0) := hz
        clear hz
        go_wp2
        go_round
        case rel => exact ⟨j, by omega, by go_num, fun i hi => by
          by_cases e : i = j
          · subst e; exact HZ.out
          · exact HA.out i (by omega)⟩
        case measure => simp [intOf]
      · have hz' : (nth l j == 0) = false := by simpa using hz
        have e : Hid (tlen l = j + 1) := (IsT.uniq ⟨by omega, HA.out, .inr (by simpa using hz)⟩).symm
        clear hz HA
        go_wp2
        go_ret
        exact ⟨ret_slice rfl e.out.symm, rfl⟩

theorem info_int : (Try.prog.info? 3).map (fun i => (i.zero, i.size, i.bytes)) = some (some (.int .i64 0), 1, 8) := by kernel_rfl

/-- a row of the numbers l -/
def row (l : List Int) : Array Value := (l.map (Value.int .i64)).toArray
theorem row_size (l : List Int) : (row l).size = l.length := by simp [row]
theorem row_at (l : List Int) (k : Nat) (h : k < l.length) : (row l)[k]? = some (.int .i64 (nth l k)) := by simp [row, nth, h]

theorem setRow_new (w : World) (cur data : Array Value) (t : TypeId) : (w.alloc (.cells cur t)).setRow w.heap.size data = w.alloc (.cells data t) := by
  unfold World.setRow World.alloc
  congr 1
  apply Array.ext
  · simp
  · intro i h1 h2
    simp [Array.getElem_modify, Array.getElem_push]
    split
    · simp_all
    · have : i < w.heap.size := by simp at h1; omega
      simp [this]

theorem heap_new (w : World) (o : Obj) : (w.alloc o).heap[w.heap.size]? = some o := by
  show (w.heap.push o)[w.heap.size]? = some o
  simp

theorem cell_of {w : World} {b : Nat} {cur : Array Value} {t : TypeId} {fr : Nat × Nat} (h : w.heap[b]? = some (.cells cur t fr)) (k : Nat) : w.cell? ⟨b, k, none⟩ = cur[k]? := by
  simp [World.cell?, h]

theorem At.new (w : World) (l : List Int) (t : TypeId) : At (w.alloc (.cells (row l) t)) (some ⟨w.heap.size, 0, none⟩) l := by
  intro k hk
  refine ⟨w.heap.size, 0, rfl, ?_⟩
  rw [Nat.zero_add, ← row_at l k hk]
  exact cell_of (heap_new _ _) k

theorem run_mk (w : World) (n : Nat) (hn : n ≤ 256) : (Instr.makeSlice 31 (.int .i64 (n : Int)) (.int .i64 (n : Int))).run Try.prog w = .ok (.slice (some ⟨w.heap.size, 0, none⟩) n n) (w.alloc (.cells (madeCells #[.int .i64 0] n) 3)) := by
  obtain ⟨i0, hi, hz0, hz1, hz2⟩ := info_parts info_int
  have := run_make (P := Try.prog) w 31 3 i0 (.int .i64 0) Try.underlying31 hi hz0 .i64 .i64 n n (by omega) (Int.le_refl _) (by rw [hz2]; omega) (by omega)
  rw [hz1] at this
  simpa [Value.cells] using this

theorem mk0 : madeCells #[Value.int .i64 0] 0 = #[] := Array.eq_empty_of_size_eq_zero (size_madeCells _ _)
theorem run_cp (w : World) (oa : Option Addr) (l : List Int) (c : Nat) (ty : TypeId) (hA : At w oa l) :
    (Builtin.copy_ #[31, 31] ty #[.slice (some ⟨w.heap.size, 0, none⟩) l.length l.length, .slice oa l.length c]).run Try.prog (w.alloc (.cells (madeCells #[.int .i64 0] l.length) 3)) = .ok (goInt l.length) (w.alloc (.cells (row l) 3)) := by
  obtain ⟨i0, hi, hz0, hz1, hz2⟩ := info_parts info_int
  have hsz : (Try.prog.info? 3).map (·.size) = some 1 := by simp [hi, hz1]
  by_cases h0 : l.length = 0
  · have e : l = [] := List.eq_nil_of_length_eq_zero h0
    subst e
    have := run_copy_none (P := Try.prog) (w.alloc (.cells (madeCells #[.int .i64 0] 0) 3)) 31 31 ty 3 (some ⟨w.heap.size, 0, none⟩) oa 0 0 0 c Try.underlying31 hsz rfl
    rw [mk0] at this
    rw [List.length_nil, mk0]
    exact this
  · obtain ⟨b, off, rfl, _⟩ := hA 0 (by omega)
    have hA' := hA.below ((Below.refl w.heap.size w).alloc (Nat.le_refl _) (.cells (madeCells #[.int .i64 0] l.length) 3))
    have := run_copy_row (P := Try.prog) (w.alloc (.cells (madeCells #[.int .i64 0] l.length) 3)) 31 31 ty 3 w.heap.size 0 l.length l.length ⟨b, off, none⟩ l.length c (madeCells #[.int .i64 0] l.length) 3 (l.map (Value.int .i64))
      Try.underlying31 hsz (heap_new _ _) (by simp) (by
        intro j v hj
        have hjl : j < l.length := by
          have := (List.getElem?_eq_some_iff.1 hj).1
          simpa using this
        obtain ⟨b', off', he, hcell⟩ := hA' j hjl
        simp at he
        obtain ⟨rfl, rfl⟩ := he
        have hv : v = .int .i64 (nth l j) := by
          rw [nth_lt l j hjl]
          simp [hjl] at hj
          exact hj.symm
        rw [hv, ← hcell, Addr.add_lit]) (by simp [size_madeCells]) (by
        intro v hv
        simp at hv
        obtain ⟨n, _, rfl⟩ := hv
        rfl)
    rw [this, setRow_new]
    have hd : (madeCells #[Value.int .i64 0] l.length).toList.drop l.length = [] := by
      apply List.drop_eq_nil_of_le
      simp [size_madeCells]
    simp [row, hd]

set_option maxHeartbeats 800000 in
theorem dup_any (oa : Option Addr) (l : List Int) (c : Nat) (w : World) (hA : At w oa l) (hl : l.length ≤ 256) :
    Calls Try.prog 34 #[.slice oa l.length c] w fun r w' => r = .returned (.slice (some ⟨w.heap.size, 0, none⟩) l.length l.length) ∧ w' = w.alloc (.cells (row l) 3) := by
  have hm := run_mk w l.length hl
  have hcp := run_cp w oa l c 3 hA
  clear hA
  go_enter Try.func34, Try.ntmps34
  go_wp2
  go_ret
  exact ⟨rfl, rfl⟩

theorem dup_n (oa : Option Addr) (l : List Int) (n c : Nat) (hn : l.length = n) (w : World) (hA : At w oa l) (hl : n ≤ 256) :
    Calls Try.prog 34 #[.slice oa n c] w fun r w' => r = .returned (.slice (some ⟨w.heap.size, 0, none⟩) n n) ∧ w' = w.alloc (.cells (row l) 3) := by
  subst hn
  exact dup_any oa l c w hA hl

set_option maxHeartbeats 400000 in
theorem isNumber_any (n : Int) (w : World) :
    Calls Try.prog 33 #[.int .i64 n] w fun r w' => r = .returned (.bool (decide (0 ≤ n) && decide (n ≤ 1048576))) ∧ w' = w := by
  by_cases h1 : 0 ≤ n <;> by_cases h2 : n ≤ 1048576
  all_goals
    go_enter Try.func33, Try.ntmps33
    go_wp2
    go_ret
    simp [h1, h2]

def okN (n : Int) : Bool := decide (0 ≤ n) && decide (n ≤ 1048576)
theorem okN_iff (n : Int) : okN n = true ↔ 0 ≤ n ∧ n ≤ 1048576 := by simp [okN]
theorem isNumber_is (n : Int) (x : Bool) (h : okN n = x) (w : World) :
    Calls Try.prog 33 #[.int .i64 n] w fun r w' => r = .returned (.bool x) ∧ w' = w := by
  have := isNumber_any n w
  unfold okN at h
  rw [h] at this
  exact this

/-- each a number of a clock -/
def Valid (l : List Int) : Prop := ∀ k, k < l.length → okN (nth l k) = true

set_option maxHeartbeats 400000 in
theorem of_long (oa : Option Addr) (n c : Nat) (w : World) (h : 256 < n) (hm : n ≤ maxLen) :
    Calls Try.prog 8 #[.slice oa n c] w fun r w' => r = .returned (.tuple #[.pointer none, .int .i64 2]) ∧ w' = w := by
  unfold maxLen at hm
  have h' : (256 : Int) < (n : Int) := by omega
  go_enter Try.func8, Try.ntmps8
  go_wp2
  go_ret2
  exact ⟨rfl, rfl⟩

set_option maxHeartbeats 800000 in
theorem of_bad (oa : Option Addr) (l : List Int) (c : Nat) (w : World) (hA : At w oa l) (hl : l.length ≤ 256) (hv : ¬ Valid l) :
    Calls Try.prog 8 #[.slice oa l.length c] w fun r w' => r = .returned (.tuple #[.pointer none, .int .i64 1]) ∧ w' = w := by
  have HV : Hid (¬ Valid l) := hv
  clear hv
  go_enter Try.func8, Try.ntmps8
  go_wp2_with fail
  go_loop [11] (fun i => ∃ k : Nat, k ≤ l.length ∧ i = .int .i64 k ∧ ∀ j, j < k → okN (nth l j) = true) (fun i => l.length - (intOf i).toNat)
  case atStart => exact ⟨0, Nat.zero_le _, rfl, fun j hj => absurd hj (Nat.not_lt_zero _)⟩
  case round =>
    obtain ⟨k, hk, rfl, hall⟩ := hrel
    have HA : Hid (∀ j, j < k → okN (nth l j) = true) := hall
    clear hall
    by_cases hlt : k < l.length
    · obtain ⟨b', off, rfl, hc⟩ := hA k hlt
      clear hA
      cases ho : okN (nth l k)
      · have HO : Hid (okN (nth l k) = false) := ho
        clear ho
        go_wp2_with (go_at_call 33; refine (isNumber_is _ false HO.out _).mono ?_; rintro r w' ⟨rfl, rfl⟩)
        go_ret2
        exact ⟨rfl, rfl⟩
      · have HO : Hid (okN (nth l k) = true) := ho
        clear ho
        go_wp2_with (go_at_call 33; refine (isNumber_is _ true HO.out _).mono ?_; rintro r w' ⟨rfl, rfl⟩)
        go_round
        case rel => exact ⟨k + 1, by omega, by go_num, fun j hj => by
          by_cases e : j = k
          · subst e; exact HO.out
          · exact HA.out j (by omega)⟩
        case measure => simp [intOf]; omega
    · exact absurd (fun j hj => HA.out j (by omega)) HV.out

set_option maxHeartbeats 800000 in
theorem of_ok (oa : Option Addr) (l : List Int) (c : Nat) (w : World) (hA : At w oa l) (hl : l.length ≤ 256) (hlc : l.length ≤ c) (hc : c ≤ maxLen) (hv : Valid l) :
    Calls Try.prog 8 #[.slice oa l.length c] w fun r w' => r = .returned (.tuple #[.pointer (some ⟨w.heap.size + 1, 0, none⟩), .int .i64 0]) ∧
      w' = (w.alloc (.cells (row (trm l)) 3)).alloc (.cells #[.slice (some ⟨w.heap.size, 0, none⟩) (tlen l) (tlen l), .bool false] 103) := by
  have HV : Hid (Valid l) := hv
  have HA : Hid (At w oa l) := hA
  have HN : Hid (At w oa (trm l)) := hA.take _
  have HL : Hid (tlen l ≤ 256) := Nat.le_trans (tlen_le l) hl
  have HM : Hid (c ≤ maxLen) := hc
  clear hv hA hc
  go_enter Try.func8, Try.ntmps8
  go_wp2_with fail
  go_loop [11] (fun i => ∃ k : Nat, k ≤ l.length ∧ i = .int .i64 k) (fun i => l.length - (intOf i).toNat)
  case atStart => exact ⟨0, Nat.zero_le _, rfl⟩
  case round =>
    obtain ⟨k, hk, rfl⟩ := hrel
    by_cases hlt : k < l.length
    · obtain ⟨b', off, rfl, hc⟩ := HA.out k hlt
      go_wp2_with (go_at_call 33; refine (isNumber_is _ true (HV.out k hlt) _).mono ?_; rintro r w' ⟨rfl, rfl⟩)
      go_round
      case rel => exact ⟨k + 1, by omega, by go_num⟩
      case measure => simp [intOf]; omega
    · go_wp2_with (first | (go_at_call 35; refine (trim_any oa l c _ HA.out hlc HM.out).mono ?_; rintro r w' ⟨rfl, rfl⟩) | (go_at_call 34; refine (dup_n _ (trm l) _ _ (trm_length l) _ HN.out HL.out).mono ?_; rintro r w' ⟨rfl, rfl⟩))
      go_ret2
      exact ⟨rfl, rfl⟩
end Ck
end Go.Proofs.Ytekdcfdjohlfcaa
/- Package clock: List, New, and the laws' own Ints, over this seat's program. -/
namespace Go.Proofs.Ytekdcfdjohlfcaa
open Go.ChangeShapes Go.WideShapes Go.ChangeAt Go.RowKit
namespace Ck

set_option maxHeartbeats 400000 in
theorem list_nil (w : World) :
    Calls Try.prog 31 #[.pointer none] w fun r w' => r = .returned (.slice none 0 0) ∧ w' = w := by
  go_enter Try.func31, Try.ntmps31
  go_wp2
  go_ret
  exact ⟨rfl, rfl⟩

set_option maxHeartbeats 400000 in
theorem list_any (b : Nat) (l : List Int) (w : World) (h : CK w b l) :
    Calls Try.prog 31 #[.pointer (some ⟨b, 0, none⟩)] w fun r w' => r = .returned (.slice (some ⟨w.heap.size, 0, none⟩) l.length l.length) ∧ w' = w.alloc (.cells (row l) 3) := by
  obtain ⟨oa, c, s, h0, _, hA, hL⟩ := h
  have HA : Hid (At w oa l) := hA
  clear hA
  go_enter Try.func31, Try.ntmps31
  go_wp2_with (go_at_call 34; refine (dup_any _ l _ _ HA.out hL).mono ?_; rintro r w' ⟨rfl, rfl⟩)
  go_ret
  exact ⟨rfl, rfl⟩

theorem eq_of_nth {l m : List Int} (hl : l.length = m.length) (h : ∀ j, j < l.length → nth l j = nth m j) : l = m := by
  apply List.ext_getElem hl
  intro i h1 h2
  have := h i h1
  rwa [nth_lt l i h1, nth_lt m i h2] at this

set_option maxHeartbeats 1600000 in
theorem ints_any (oa ob : Option Addr) (l m : List Int) (c d : Nat) (w : World) (hA : At w oa l) (hB : At w ob m) (hl : l.length ≤ 256) (hm : m.length ≤ 256) :
    Calls Try.prog 30 #[.slice oa l.length c, .slice ob m.length d] w fun r w' => r = .returned (.bool (decide (l = m))) ∧ ∃ q, w' = w.drewN q := by
  have HA : Hid (At w oa l) := hA
  have HB : Hid (At w ob m) := hB
  clear hA hB
  go_enter Try.func30, Try.ntmps30
  go_wp2_with fail
  go_loopw [8] (fun i wr => ∃ k : Nat, k ≤ l.length ∧ i = .int .i64 k ∧ (k ≤ m.length ∧ ∀ j, j < k → nth l j = nth m j) ∧ ∃ q, wr = w.drewN q) (fun i _ => l.length - (intOf i).toNat)
  case atStart => exact ⟨0, Nat.zero_le _, rfl, ⟨Nat.zero_le _, fun j hj => absurd hj (Nat.not_lt_zero _)⟩, 0, rfl⟩
  case round =>
    obtain ⟨k, hk, rfl, ⟨hkm, hall⟩, q, rfl⟩ := hrel
    have HE : Hid (∀ j, j < k → nth l j = nth m j) := hall
    clear hall
    by_cases hlt : k < l.length
    · obtain ⟨b1, o1, rfl, hc1⟩ := HA.out k hlt
      have hlt' : (k : Int) < (l.length : Int) := by omega
      by_cases hlm : k < m.length
      · obtain ⟨b2, o2, rfl, hc2⟩ := HB.out k hlm
        have hlm' : (k : Int) < (m.length : Int) := by omega
        have hg : decide ((m.length : Int) ≤ (k : Int)) = false := by simp; omega
        by_cases he : nth l k = nth m k
        · have he' : (nth l k != nth m k) = false := by simpa using he
          have HX : Hid (nth l k = nth m k) := he
          clear he
          go_wp2_with fail
          go_quiet (fail)
          go_wp2
          go_roundw
          case rel => exact ⟨k + 1, by omega, by go_num, ⟨by omega, fun j hj => by
            by_cases e : j = k
            · subst e; exact HX.out
            · exact HE.out j (by omega)⟩, _, rfl⟩
          case measure => simp [intOf]; omega
        · have he' : (nth l k != nth m k) = true := by simpa using he
          have HX : Hid (l ≠ m) := fun e => he (by rw [e])
          clear he
          go_wp2_with fail
          go_quiet (fail)
          go_wp2
          go_ret
          exact ⟨ret_bool (by simpa using HX.out), by first | exact ⟨_, rfl⟩ | (rw [World.drewN_drewN]; exact ⟨_, rfl⟩)⟩
      · have HX : Hid (l ≠ m) := fun e => by subst e; exact hlm hlt
        have hg : decide ((m.length : Int) ≤ (k : Int)) = true := by simp; omega
        go_wp2_with fail
        go_quiet (fail)
        go_wp2
        go_ret
        exact ⟨ret_bool (by simpa using HX.out), by first | exact ⟨_, rfl⟩ | (rw [World.drewN_drewN]; exact ⟨_, rfl⟩)⟩
    · by_cases he : l.length = m.length
      · have he' : ((l.length : Int) == (m.length : Int)) = true := by simp; omega
        have HX : Hid (l = m) := eq_of_nth he fun j hj => HE.out j (by omega)
        clear he
        go_wp2
        go_ret
        exact ⟨ret_bool (by simpa using HX.out), by first | exact ⟨_, rfl⟩ | (rw [World.drewN_drewN]; exact ⟨_, rfl⟩)⟩
      · have he' : ((l.length : Int) == (m.length : Int)) = false := by simp; omega
        have HX : Hid (l ≠ m) := fun e => he (by rw [e])
        clear he
        go_wp2
        go_ret
        exact ⟨ret_bool (by simpa using HX.out), by first | exact ⟨_, rfl⟩ | (rw [World.drewN_drewN]; exact ⟨_, rfl⟩)⟩
end Ck
end Go.Proofs.Ytekdcfdjohlfcaa
/- What lies in memory: lists of int, rows of cells, frames. -/
namespace Go.Proofs.Ytekdcfdjohlfcaa
open Go.ChangeShapes Go.WideShapes Go.ChangeAt Go.RowKit
namespace Ba

theorem hide {p : Prop} (h : p) : Hid p := h

/-- the k'th number of a list, 0 behind its end -/
def nth (l : List Int) (k : Nat) : Int := l.getD k 0
theorem nth_out (l : List Int) (k : Nat) (h : l.length ≤ k) : nth l k = 0 := by simp [nth, h]
theorem nth_lt (l : List Int) (k : Nat) (h : k < l.length) : nth l k = l[k] := by simp [nth, h]
theorem nth_take (l : List Int) (n k : Nat) (h : k < n) : nth (l.take n) k = nth l k := by simp [nth, h]
theorem eq_of_nth {l m : List Int} (h : l.length = m.length) (hn : ∀ k, k < l.length → nth l k = nth m k) : l = m := by
  apply List.ext_getElem h
  intro i h1 h2
  have := hn i h1
  rw [nth_lt l i h1, nth_lt m i h2] at this
  exact this

/-- the cells from oa on hold l -/
def At (w : World) (oa : Option Addr) (l : List Int) : Prop :=
  ∀ k, k < l.length → ∃ b off, oa = some ⟨b, off, none⟩ ∧ w.cell? ⟨b, off + k, none⟩ = some (.int .i64 (nth l k))
theorem At.below {w w' : World} {oa : Option Addr} {l : List Int} (h : At w oa l) (hb : Below w.heap.size w w') : At w' oa l := by
  intro k hk
  obtain ⟨b, off, he, hc⟩ := h k hk
  exact ⟨b, off, he, (hb.cell (World.block_lt_of_cell? w _ hc)).trans hc⟩
theorem At.nil (w : World) (oa : Option Addr) : At w oa [] := fun _ hk => absurd hk (Nat.not_lt_zero _)

/-- a row of the numbers l -/
def row (l : List Int) : Array Value := (l.map (Value.int .i64)).toArray
theorem row_size (l : List Int) : (row l).size = l.length := by simp [row]
theorem row_at (l : List Int) (k : Nat) (h : k < l.length) : (row l)[k]? = some (.int .i64 (nth l k)) := by simp [row, nth, h]

theorem heap_new (w : World) (o : Obj) : (w.alloc o).heap[w.heap.size]? = some o := by
  show (w.heap.push o)[w.heap.size]? = some o
  simp
theorem setRow_new (w : World) (cur data : Array Value) (t : TypeId) : (w.alloc (.cells cur t)).setRow w.heap.size data = w.alloc (.cells data t) := by
  unfold World.setRow World.alloc
  congr 1
  apply Array.ext
  · simp
  · intro i h1 h2
    simp [Array.getElem_modify, Array.getElem_push]
    split
    · simp_all
    · have : i < w.heap.size := by simp at h1; omega
      simp [this]
theorem cell_of {w : World} {b : Nat} {cur : Array Value} {t : TypeId} {fr : Nat × Nat} (h : w.heap[b]? = some (.cells cur t fr)) (k : Nat) : w.cell? ⟨b, k, none⟩ = cur[k]? := by
  simp [World.cell?, h]
theorem frozen_of {w : World} {b : Nat} {cur : Array Value} {t : TypeId} (h : w.heap[b]? = some (.cells cur t (0, 0))) (k : Nat) : w.frozen? ⟨b, k, none⟩ = false := by
  simp [World.frozen?, h]
theorem heap_setCell_same {w : World} {b i : Nat} {cur : Array Value} {t : TypeId} {fr : Nat × Nat} (h : w.heap[b]? = some (.cells cur t fr)) (v : Value) : (w.setCell ⟨b, i, none⟩ v).heap[b]? = some (.cells (cur.setIfInBounds i v) t fr) := by
  rw [setCell_eq_setRow w b i cur t fr v h]
  exact setRow_heap w b cur _ t fr h
theorem At.new (w : World) (l : List Int) (t : TypeId) : At (w.alloc (.cells (row l) t)) (some ⟨w.heap.size, 0, none⟩) l := by
  intro k hk
  refine ⟨w.heap.size, 0, rfl, ?_⟩
  rw [Nat.zero_add, ← row_at l k hk]
  exact cell_of (heap_new _ _) k
theorem At.lit (w : World) (l : List Int) (t : TypeId) (c : Array Value) (h : c = row l) : At (w.alloc (.cells c t)) (some ⟨w.heap.size, 0, none⟩) l := by
  subst h
  exact At.new w l t

theorem btr {a b c : World} (h : Below a.heap.size a b) (k : Below b.heap.size b c) : Below a.heap.size a c := h.trans (k.mono h.size)
theorem below_alloc (w : World) (o : Obj) : Below w.heap.size w (w.alloc o) := (Below.refl _ _).alloc (Nat.le_refl _) _
theorem bdrew (w : World) (q : Nat) : Below w.heap.size w (w.drewN q) := ⟨rfl, rfl, rfl, Nat.le_refl _, fun _ _ => rfl⟩
theorem bdrew1 (w : World) : Below w.heap.size w w.drew := ⟨rfl, rfl, rfl, Nat.le_refl _, fun _ _ => rfl⟩
theorem heap_below {w w' : World} {b : Nat} {o : Obj} (h : w.heap[b]? = some o) (hb : Below w.heap.size w w') : w'.heap[b]? = some o := by
  have hl : b < w.heap.size := by
    rcases Nat.lt_or_ge b w.heap.size with q | q
    · exact q
    · rw [Array.getElem?_eq_none q] at h; cases h
  exact (hb.block b hl).trans h

theorem results_row2 {fn : Func} {p u : Tmp} {ty : TypeId} (h : fn.results = #[.cell p ty, .tmp u]) (tmps : Array Value) (w : World) (g : Nat) (cs : Array Value) (v : Value)
    (hp : tmps.getD p undef = .pointer (some ⟨g, 0, none⟩)) (hv : tmps.getD u undef = v) (hl : (loadVar ty ⟨g, 0, none⟩).run Try.prog w = .ok (.agg cs) w) :
    (results fn tmps).run Try.prog w = .ok (.tuple #[.agg cs, v]) w := by
  subst hv
  have hp' : tmps[p]?.getD undef = .pointer (some ⟨g, 0, none⟩) := by simpa using hp
  simp [results, h, hp', asAddr, hl]
theorem ret_bool {a b : Bool} (h : a = b) : Ending.returned (.bool a) = .returned (.bool b) := by rw [h]
theorem ret_int {a b : Int} (h : a = b) : Ending.returned (.int .i64 a) = .returned (.int .i64 b) := by rw [h]
end Ba
end Go.Proofs.Ytekdcfdjohlfcaa
/- From world to world, but for one block; a list in memory below a block. -/
namespace Go.Proofs.Ytekdcfdjohlfcaa
open Go.ChangeShapes Go.WideShapes Go.ChangeAt Go.RowKit
namespace Ba

theorem heap_lt {w : World} {b : Nat} {o : Obj} (h : w.heap[b]? = some o) : b < w.heap.size := by
  rcases Nat.lt_or_ge b w.heap.size with q | q
  · exact q
  · rw [Array.getElem?_eq_none q] at h; cases h

/-- from w to w' at most block R has changed, of those that were there -/
structure KB (R : Nat) (w w' : World) : Prop where
  os : w'.os = w.os
  tape : w'.tape = w.tape
  output : w'.output = w.output
  size : w.heap.size ≤ w'.heap.size
  block : ∀ k, k < w.heap.size → k ≠ R → w'.heap[k]? = w.heap[k]?
theorem KB.refl (R : Nat) (w : World) : KB R w w := ⟨rfl, rfl, rfl, Nat.le_refl _, fun _ _ _ => rfl⟩
theorem KB.trans {R : Nat} {a b c : World} (h : KB R a b) (k : KB R b c) : KB R a c :=
  ⟨k.os.trans h.os, k.tape.trans h.tape, k.output.trans h.output, Nat.le_trans h.size k.size, fun x hx hr => (k.block x (Nat.lt_of_lt_of_le hx h.size) hr).trans (h.block x hx hr)⟩
theorem KB.of {R : Nat} {a b : World} (h : Below a.heap.size a b) : KB R a b := ⟨h.os, h.tape, h.output, h.size, fun x hx _ => h.block x hx⟩
theorem KB.setCell {R : Nat} {a b : World} (h : KB R a b) (i : Nat) (v : Value) : KB R a (b.setCell ⟨R, i, none⟩ v) :=
  ⟨h.os, h.tape, h.output, by show _ ≤ (b.setCell _ _).heap.size; simp [World.setCell]; exact h.size, fun x hx hr => (Below.heap_setCell _ _ _ _ hr).trans (h.block x hx hr)⟩
theorem KB.below {R : Nat} {w a b : World} (h : Below w.heap.size w a) (k : KB R a b) (hR : w.heap.size ≤ R) : Below w.heap.size w b :=
  ⟨k.os.trans h.os, k.tape.trans h.tape, k.output.trans h.output, Nat.le_trans h.size k.size, fun x hx => (k.block x (Nat.lt_of_lt_of_le hx h.size) (by omega)).trans (h.block x hx)⟩
theorem KB.heap {R b : Nat} {w w' : World} {o : Obj} (k : KB R w w') (h : w.heap[b]? = some o) (hb : b ≠ R) : w'.heap[b]? = some o :=
  (k.block b (heap_lt h) hb).trans h
theorem KB.cell {R b i : Nat} {w w' : World} {v : Value} (k : KB R w w') (h : w.cell? ⟨b, i, none⟩ = some v) (hb : b ≠ R) : w'.cell? ⟨b, i, none⟩ = some v := by
  have := k.block b (World.block_lt_of_cell? w _ h) hb
  rw [← h]
  simp only [World.cell?, this]
theorem KB.at {R : Nat} {w w' : World} {oa : Option Addr} {l : List Int} (k : KB R w w') (h : At w oa l) (hb : ∀ a, oa = some a → a.block ≠ R) : At w' oa l := by
  intro j hj
  obtain ⟨b, off, rfl, hc⟩ := h j hj
  exact ⟨b, off, rfl, k.cell hc (hb _ rfl)⟩
theorem KB.at' {R : Nat} {w w' : World} {oa : Option Addr} {l : List Int} (k : KB R w w') (h : At w oa l) (hb : 0 < l.length → ∀ a, oa = some a → a.block ≠ R) : At w' oa l := by
  intro j hj
  obtain ⟨b, off, rfl, hc⟩ := h j hj
  exact ⟨b, off, rfl, k.cell hc (hb (by omega) _ rfl)⟩
theorem At.lt {w : World} {oa : Option Addr} {l : List Int} (h : At w oa l) (h0 : 0 < l.length) (a : Addr) (e : oa = some a) : a.block < w.heap.size := by
  obtain ⟨b, off, rfl, hc⟩ := h 0 h0
  cases e
  exact World.block_lt_of_cell? w _ hc
theorem At.tail {w : World} {b off : Nat} {x : Int} {l : List Int} (h : At w (some ⟨b, off, none⟩) (x :: l)) : At w (some ⟨b, off + 1, none⟩) l := by
  intro k hk
  obtain ⟨b', off', he, hc⟩ := h (k + 1) (by simp; omega)
  simp only [Option.some.injEq, Addr.mk.injEq] at he
  obtain ⟨rfl, rfl, _⟩ := he
  refine ⟨b, off + 1, rfl, ?_⟩
  rw [show off + 1 + k = off + (k + 1) by omega, hc]
  rfl
theorem At.head {w : World} {oa : Option Addr} {x : Int} {l : List Int} (h : At w oa (x :: l)) : ∃ b off, oa = some ⟨b, off, none⟩ ∧ w.cell? ⟨b, off, none⟩ = some (.int .i64 x) := by
  obtain ⟨b, off, rfl, hc⟩ := h 0 (by simp)
  exact ⟨b, off, rfl, hc⟩
end Ba
end Go.Proofs.Ytekdcfdjohlfcaa
/- A list of records of integers among a law's arguments, opened. -/
namespace Go.Proofs.Ytekdcfdjohlfcaa
open Go.ChangeShapes Go.WideShapes Go.ChangeAt Go.RowKit
namespace Ba

/-- the cells from oa on hold the records l, of m numbers each -/
def RAt (w : World) (oa : Option Addr) (m : Nat) (l : List (List Int)) : Prop :=
  ∀ k x, l[k]? = some x → ∃ b off, oa = some ⟨b, off, none⟩ ∧ ∀ j, j < m → w.cell? ⟨b, off + k * m + j, none⟩ = some (.int .i64 (nth x j))
theorem RAt.nil (w : World) (oa : Option Addr) (m : Nat) : RAt w oa m [] := fun _ _ h => by simp at h
theorem RAt.below {w w' : World} {oa : Option Addr} {m : Nat} {l : List (List Int)} (h : RAt w oa m l) (hb : Below w.heap.size w w') : RAt w' oa m l := by
  intro k x hk
  obtain ⟨b, off, he, hc⟩ := h k x hk
  exact ⟨b, off, he, fun j hj => (hb.cell (World.block_lt_of_cell? w _ (hc j hj))).trans (hc j hj)⟩
theorem RAt.kb {w w' : World} {R : Nat} {oa : Option Addr} {m : Nat} {l : List (List Int)} (h : RAt w oa m l) (k : KB R w w') (hb : ∀ a, oa = some a → a.block ≠ R) : RAt w' oa m l := by
  intro i x hi
  obtain ⟨b, off, rfl, hc⟩ := h i x hi
  exact ⟨b, off, rfl, fun j hj => k.cell (hc j hj) (hb _ rfl)⟩
/-- below G nothing has changed, and no block of another type than e but G -/
def FT (G : Nat) (e : TypeId) (w w' : World) : Prop := Below G w w' ∧ ∀ k c t fr, w.heap[k]? = some (.cells c t fr) → t ≠ e → k ≠ G → w'.heap[k]? = some (.cells c t fr)
theorem FT.refl (P : Nat) (e : TypeId) (w : World) : FT P e w w := ⟨Below.refl _ _, fun _ _ _ _ h _ _ => h⟩
theorem FT.trans {P : Nat} {e : TypeId} {a b c : World} (h : FT P e a b) (k : FT P e b c) : FT P e a c :=
  ⟨h.1.trans k.1, fun x cc t fr hx ht hP => k.2 x cc t fr (h.2 x cc t fr hx ht hP) ht hP⟩
theorem FT.of {P : Nat} {e : TypeId} {a b : World} (h : Below a.heap.size a b) (hP : P ≤ a.heap.size) : FT P e a b :=
  ⟨h.mono hP, fun _ _ _ _ hx _ _ => heap_below hx h⟩
theorem FT.setP {P : Nat} {e : TypeId} {a b : World} (h : FT P e a b) (i : Nat) (v : Value) : FT P e a (b.setCell ⟨P, i, none⟩ v) :=
  ⟨h.1.setCell (Nat.le_refl _) _, fun x cc t fr hx ht hP => (Below.heap_setCell _ _ _ _ hP).trans (h.2 x cc t fr hx ht hP)⟩
theorem FT.setS {P : Nat} {e : TypeId} {a b : World} {q : Nat} {c : Array Value} {f : Nat × Nat} (h : FT P e a b) (hq : b.heap[q]? = some (.cells c e f)) (hP : P ≤ q) (i : Nat) (v : Value) : FT P e a (b.setCell ⟨q, i, none⟩ v) :=
  ⟨h.1.setCell hP _, fun x cc t fr hx ht hPx => (Below.heap_setCell _ _ _ _ (by
    intro (e : x = q)
    have := h.2 x cc t fr hx ht hPx
    rw [e, hq] at this
    cases this
    exact ht rfl)).trans (h.2 x cc t fr hx ht hPx)⟩
theorem FT.setNew {P : Nat} {e : TypeId} {a b : World} {z : Nat} (h : FT P e a b) (hz : a.heap.size ≤ z) (hP : P ≤ z) (i : Nat) (v : Value) : FT P e a (b.setCell ⟨z, i, none⟩ v) :=
  ⟨h.1.setCell hP _, fun x cc t fr hx ht hPx => (Below.heap_setCell _ _ _ _ (by have := heap_lt hx; show x ≠ z; omega)).trans (h.2 x cc t fr hx ht hPx)⟩
theorem FT.alloc {P : Nat} {e : TypeId} {a b : World} (h : FT P e a b) (hP : P ≤ b.heap.size) (o : Obj) : FT P e a (b.alloc o) := h.trans (FT.of (below_alloc _ _) hP)
theorem FT.under {P : Nat} {e : TypeId} {w a b : World} (h : Below w.heap.size w a) (k : FT P e a b) (hP : w.heap.size ≤ P) : Below w.heap.size w b := h.trans (k.1.mono hP)
theorem own_below {w w' : World} {base : Nat} {e : TypeId} {size : Nat} {v : Value} {n : Nat} {xs : List Value} (h : w.ownsRow base e size v n xs) (hb : Below w.heap.size w w') : w'.ownsRow base e size v n xs := by
  refine ⟨h.1, ?_⟩
  rcases h.2 with q | ⟨g, cap, cur, q1, q2, q3, q4⟩
  · exact .inl q
  · exact .inr ⟨g, cap, cur, q1, q2, heap_below q3 hb, q4⟩
theorem own_ty {w : World} {base size : Nat} {e : TypeId} {v : Value} {n g : Nat} {xs : List Value} {c : Array Value} {t : TypeId} {fr : Nat × Nat} (h : w.ownsRow base e size v n xs) (hg : w.heap[g]? = some (.cells c t fr)) (ht : t ≠ e) : some g ≠ v.ownBlock := by
  intro q
  rcases h.2 with ⟨rfl, _⟩ | ⟨b, cap, cur, rfl, _, hb, _⟩
  · simp [Value.ownBlock] at q
  · simp [Value.ownBlock] at q
    subst q
    rw [hg] at hb
    simp at hb
    exact ht hb.2.1
theorem one_of {cs : List Value} {j : Nat} {v : Value} (h : (cs.drop j).take 1 = [v]) : cs[j]? = some v := by
  have : ((cs.drop j).take 1)[0]? = some v := by rw [h]; rfl
  simpa using this
theorem cells_int : Try.prog.cellsOf 3 = 1 := by kernel_rfl

section
variable {H : Type} {enc : TypeId × Value → H} {w : World}
theorem recs_open {t e : TypeId} {m : Nat} (ht : Try.prog.underlying t = some (.slice e)) (hm0 : 0 < m) (hce : Try.prog.cellsOf e = m)
    (hE : ∀ (n : Nat) (cs : List Value) (x : DataW H × List MemPlace), DataW.trod enc Try.prog w 0 (fun _ => true) true n e cs = some x → ∃ z : List Int, ∀ j, j < m → cs[j]? = some (.int .i64 (nth z j)))
    {n : Nat} {oa : Option Addr} {len cap : Nat} {x : DataW H × List MemPlace} (h : DataW.trod enc Try.prog w 0 (fun _ => true) true n t [.slice oa len cap] = some x) : ∃ l : List (List Int), l.length = len ∧ RAt w oa m l ∧ len ≤ cap ∧ cap ≤ maxLen := by
  rcases Go.Deep.open_slice ht h with ⟨hcs, _⟩ | ⟨a, len', cap', m', n', D, Pl, hcs, _, hl, hm, hmm, _, hel⟩
  · simp at hcs
    obtain ⟨rfl, rfl, rfl⟩ := hcs
    exact ⟨[], rfl, RAt.nil _ _ _, Nat.le_refl _, Nat.zero_le _⟩
  · simp at hcs
    obtain ⟨rfl, rfl, rfl⟩ := hcs
    have hmc : m' = cap := by simpa using hmm
    subst hmc
    have key : ∀ i, i < len → ∃ z : List Int, ∀ j, j < m → w.cell? ((a.add (i * m)).add j) = some (.int .i64 (nth z j)) := by
      intro i hi
      obtain ⟨cs', h1, h2⟩ := hel i (by omega)
      rw [hce] at h1
      obtain ⟨_, _, hcell⟩ := World.cells?_some h1
      obtain ⟨z, hz⟩ := hE _ _ _ h2
      exact ⟨z, fun j hj => (hcell j hj).trans (hz j hj)⟩
    have fam : ∃ f : Nat → List Int, ∀ i, i < len → ∀ j, j < m → w.cell? ((a.add (i * m)).add j) = some (.int .i64 (nth (f i) j)) := by
      refine ⟨fun i => if hi : i < len then Classical.choose (key i hi) else [], fun i hi => ?_⟩
      simp only [dif_pos hi]
      exact Classical.choose_spec (key i hi)
    obtain ⟨f, hf⟩ := fam
    refine ⟨(List.range len).map f, by simp, ?_, hl, hm⟩
    intro k c hk
    have hk2 : k < len := by
      have := (List.getElem?_eq_some_iff.1 hk).1
      simpa using this
    have hc : c = f k := by
      simp [hk2] at hk
      exact hk.symm
    subst hc
    have hspot : a.spot = none := by
      have := World.cell?_spot (hf 0 (by omega) 0 hm0)
      simpa [Addr.add] using this
    obtain ⟨b, off, spot⟩ := a
    simp at hspot
    subst hspot
    refine ⟨b, off, rfl, fun j hj => ?_⟩
    have := hf k hk2 j hj
    rw [Addr.add_lit, Addr.add_lit] at this
    exact this
end
end Ba
end Go.Proofs.Ytekdcfdjohlfcaa
/- Frames by footprint: what has changed lies in a set of blocks. -/
namespace Go.Proofs.Ytekdcfdjohlfcaa
open Go.ChangeShapes Go.WideShapes Go.ChangeAt Go.RowKit
namespace Ba

/-- from w to w' nothing has changed outside F, of what was there -/
structure KF (F : Nat → Prop) (w w' : World) : Prop where
  os : w'.os = w.os
  tape : w'.tape = w.tape
  output : w'.output = w.output
  size : w.heap.size ≤ w'.heap.size
  block : ∀ k, k < w.heap.size → ¬ F k → w'.heap[k]? = w.heap[k]?
/-- F' is F, and what is new since w -/
def Nw (F' F : Nat → Prop) (w : World) : Prop := ∀ k, F' k → F k ∨ w.heap.size ≤ k
/-- the blocks of F are as they were -/
def Sm (F : Nat → Prop) (w w' : World) : Prop := ∀ k, F k → w'.heap[k]? = w.heap[k]?
/-- the blocks of F are there -/
def Bd (F : Nat → Prop) (w : World) : Prop := ∀ k, F k → k < w.heap.size
theorem Nw.refl (F : Nat → Prop) (w : World) : Nw F F w := fun _ h => .inl h
theorem Nw.trans {F G H : Nat → Prop} {a b : World} (h : Nw G F a) (k : Nw H G b) (hs : a.heap.size ≤ b.heap.size) : Nw H F a := by
  intro x hx
  rcases k x hx with q | q
  · exact h x q
  · exact .inr (by omega)
theorem KF.refl (F : Nat → Prop) (w : World) : KF F w w := ⟨rfl, rfl, rfl, Nat.le_refl _, fun _ _ _ => rfl⟩
theorem KF.trans {F G : Nat → Prop} {a b c : World} (h : KF F a b) (k : KF G b c) (i : Nw G F a) : KF F a c :=
  ⟨k.os.trans h.os, k.tape.trans h.tape, k.output.trans h.output, Nat.le_trans h.size k.size, fun x hx hr => (k.block x (Nat.lt_of_lt_of_le hx h.size) (fun e => by
    rcases i x e with q | q
    · exact hr q
    · omega)).trans (h.block x hx hr)⟩
theorem KF.of {F : Nat → Prop} {a b : World} (h : Below a.heap.size a b) : KF F a b := ⟨h.os, h.tape, h.output, h.size, fun x hx _ => h.block x hx⟩
theorem KF.then {F : Nat → Prop} {a b c : World} (h : KF F a b) (k : Below b.heap.size b c) : KF F a c := h.trans (KF.of (F := F) k) (Nw.refl _ _)
theorem KF.mono {F G : Nat → Prop} {a b : World} (h : KF F a b) (i : ∀ k, F k → G k) : KF G a b := ⟨h.os, h.tape, h.output, h.size, fun x hx hr => h.block x hx fun e => hr (i x e)⟩
theorem KF.kb {F : Nat → Prop} {R : Nat} {a b : World} (h : KB R a b) (hR : F R) : KF F a b := ⟨h.os, h.tape, h.output, h.size, fun x hx hr => h.block x hx fun e => hr (by rw [e]; exact hR)⟩
theorem KF.set {F : Nat → Prop} {a b : World} {q : Nat} (h : KF F a b) (hq : F q) (i : Nat) (v : Value) : KF F a (b.setCell ⟨q, i, none⟩ v) :=
  ⟨h.os, h.tape, h.output, by show _ ≤ (b.setCell _ _).heap.size; simp [World.setCell]; exact h.size, fun x hx hr => (Below.heap_setCell _ _ _ _ (fun e => hr (by have e' : x = q := e; rw [e']; exact hq))).trans (h.block x hx hr)⟩
theorem KF.setNew {F : Nat → Prop} {a b : World} {z : Nat} (h : KF F a b) (hz : a.heap.size ≤ z) (i : Nat) (v : Value) : KF F a (b.setCell ⟨z, i, none⟩ v) :=
  ⟨h.os, h.tape, h.output, by show _ ≤ (b.setCell _ _).heap.size; simp [World.setCell]; exact h.size, fun x hx hr => (Below.heap_setCell _ _ _ _ (by show x ≠ z; omega)).trans (h.block x hx hr)⟩
theorem KF.alloc {F : Nat → Prop} {a b : World} (h : KF F a b) (o : Obj) : KF F a (b.alloc o) := h.then (below_alloc _ _)
theorem KF.below {F : Nat → Prop} {w a b : World} (h : Below w.heap.size w a) (k : KF F a b) (hF : ∀ x, F x → w.heap.size ≤ x) : Below w.heap.size w b :=
  ⟨k.os.trans h.os, k.tape.trans h.tape, k.output.trans h.output, Nat.le_trans h.size k.size, fun x hx => (k.block x (Nat.lt_of_lt_of_le hx h.size) (fun e => by have := hF x e; omega)).trans (h.block x hx)⟩
theorem KF.heap {F : Nat → Prop} {b : Nat} {w w' : World} {o : Obj} (k : KF F w w') (h : w.heap[b]? = some o) (hb : ¬ F b) : w'.heap[b]? = some o :=
  (k.block b (heap_lt h) hb).trans h
theorem KF.cell {F : Nat → Prop} {b i : Nat} {w w' : World} {v : Value} (k : KF F w w') (h : w.cell? ⟨b, i, none⟩ = some v) (hb : ¬ F b) : w'.cell? ⟨b, i, none⟩ = some v := by
  have := k.block b (World.block_lt_of_cell? w _ h) hb
  rw [← h]
  simp only [World.cell?, this]
theorem Sm.kf {F G : Nat → Prop} {a b : World} (k : KF G a b) (hF : Bd F a) (hd : ∀ x, F x → ¬ G x) : Sm F a b := fun x hx => k.block x (hF x hx) (hd x hx)
theorem Sm.below {F : Nat → Prop} {a b : World} (k : Below a.heap.size a b) (hF : Bd F a) : Sm F a b := fun x hx => k.block x (hF x hx)
theorem Sm.heap {F : Nat → Prop} {a b : World} (h : Sm F a b) {x : Nat} {o : Obj} (hx : F x) (ho : a.heap[x]? = some o) : b.heap[x]? = some o := (h x hx).trans ho
theorem Sm.sub {F G : Nat → Prop} {a b : World} (h : Sm F a b) (i : ∀ x, G x → F x) : Sm G a b := fun x hx => h x (i x hx)
theorem Bd.sm {F : Nat → Prop} {a b : World} (h : Bd F a) (s : Sm F a b) : Bd F b := by
  intro x hx
  have h1 := h x hx
  have h2 := s x hx
  rw [Array.getElem?_eq_getElem h1] at h2
  exact heap_lt h2
theorem Bd.mono {F : Nat → Prop} {a b : World} (h : Bd F a) (s : a.heap.size ≤ b.heap.size) : Bd F b := fun x hx => Nat.lt_of_lt_of_le (h x hx) s
/-- what F' and F have of another one's: nothing -/
theorem Nw.apart {F' F G : Nat → Prop} {a : World} (h : Nw F' F a) (hG : Bd G a) (hd : ∀ x, G x → ¬ F x) : ∀ x, G x → ¬ F' x := by
  intro x hx hf
  rcases h x hf with q | q
  · exact hd x hx q
  · have := hG x hx
    omega
end Ba
end Go.Proofs.Ytekdcfdjohlfcaa
/- Package cell, over this seat's program: rows of epochs: IndexFunc, ContainsFunc, by whatever function that is handed on. -/
namespace Go.Proofs.Ytekdcfdjohlfcaa
open Go.ChangeShapes Go.WideShapes Go.ChangeAt Go.RowKit
namespace Ce
open Ck
open Ba (KF Bd Nw hide)

/-- a row of epochs -/
def us (l : List Int) : List Value := l.map (Value.int .u64)
theorem us_len (l : List Int) : (us l).length = l.length * 1 := by simp [us]
theorem us_one (l : List Int) : ∀ u ∈ us l, u.oneCell' = true := by
  intro u hu
  obtain ⟨b, -, rfl⟩ := List.mem_map.1 hu
  rfl
theorem us_at (l : List Int) (k : Nat) (h : k < l.length) : (us l)[k]? = some (.int .u64 (nth l k)) := by simp [us, nth, h]
/-- each is of 64 bits -/
def U64 (l : List Int) : Prop := ∀ x ∈ l, 0 ≤ x ∧ x ≤ 18446744073709551615
theorem U64.nth {l : List Int} (h : U64 l) (k : Nat) : 0 ≤ nth l k ∧ nth l k ≤ 18446744073709551615 := by
  by_cases hk : k < l.length
  · rw [nth_lt l k hk]; exact h _ (List.getElem_mem hk)
  · rw [nth_out l k (by omega)]; omega
theorem info_e : (Try.prog.info? 61).map (fun i => (i.zero, i.size, i.bytes)) = some (some (.int .u64 0), 1, 8) := by kernel_rfl
/-- the value is a slice -/
theorem own_sl {w : World} {e : TypeId} {v : Value} {n : Nat} {xs : List Value} (h : w.ownsRow 0 e 1 v n xs) : ∃ oa c, v = .slice oa n c := by
  rcases h.2 with ⟨rfl, rfl⟩ | ⟨g, cap, cr, rfl, -⟩
  · exact ⟨none, 0, rfl⟩
  · exact ⟨_, _, rfl⟩
theorem own_cell {w : World} {oa : Option Addr} {c k : Nat} {l : List Int} (h : w.ownsRow 0 61 1 (.slice oa l.length c) l.length (us l)) (hk : k < l.length) :
    ∃ g, oa = some ⟨g, 0, none⟩ ∧ w.cell? ⟨g, k, none⟩ = some (.int .u64 (nth l k)) ∧ w.frozen? ⟨g, k, none⟩ = false := by
  rcases h.2 with ⟨-, h0⟩ | ⟨g, cap, cur, e, -⟩
  · omega
  · cases e
    exact ⟨g, rfl, by rw [h.cellAt k (by omega)]; exact us_at l k hk, h.frozenAt k⟩
theorem own_cap {w : World} {oa : Option Addr} {c : Nat} {l : List Int} (h : w.ownsRow 0 61 1 (.slice oa l.length c) l.length (us l)) : l.length ≤ c ∧ c ≤ maxLen := by
  rcases h.2 with ⟨e, h0⟩ | ⟨g, cap, cur, e, -, -, h1, h2, -⟩
  · simp only [Value.slice.injEq] at e; exact ⟨by omega, by rw [e.2.2]; exact Nat.zero_le _⟩
  · cases e; exact ⟨h1, h2⟩

/-- where the first one is that is so; else -1 -/
def idx (p : Int → Bool) (l : List Int) : Int := match l.findIdx? p with | some i => (i : Int) | none => -1
theorem idx_none {p : Int → Bool} {l : List Int} (h : ∀ j, j < l.length → p (nth l j) = false) : idx p l = -1 := by
  have : l.findIdx? p = none := by
    rw [List.findIdx?_eq_none_iff]
    intro x hx
    obtain ⟨j, hj, rfl⟩ := List.getElem_of_mem hx
    have := h j hj
    rwa [nth_lt l j hj] at this
  simp [idx, this]
theorem idx_some {p : Int → Bool} {l : List Int} {k : Nat} (hk : k < l.length) (h : ∀ j, j < k → p (nth l j) = false) (hp : p (nth l k) = true) : idx p l = (k : Int) := by
  have : l.findIdx? p = some k := by
    rw [List.findIdx?_eq_some_iff_getElem]
    refine ⟨hk, by rwa [nth_lt l k hk] at hp, fun j hj => ?_⟩
    have := h j hj
    rw [nth_lt l j (by omega)] at this
    simp [this]
  simp [idx, this]

set_option maxHeartbeats 1600000 in
theorem index_any (n : FuncId) (caps : Array Value) (hn : ∀ (a : Array Value) (u : World), (callFunc n a).run Try.prog u = .ok (.enter n a) u) (p : Int → Bool) (v : Value) (l : List Int) (w : World)
    (ho : w.ownsRow 0 61 1 v l.length (us l)) (hp : ∀ k, k < l.length → Calls Try.prog n (#[.int .u64 (nth l k)] ++ caps) w fun r w' => r = .returned (.bool (p (nth l k))) ∧ w' = w) :
    Calls Try.prog 85 #[v, .func (.func n) #[] caps] w fun r w' => r = .returned (.int .i64 (idx p l)) ∧ w' = w := by
  obtain ⟨oa, c, rfl⟩ := own_sl ho
  have HO := hide ho
  have HP := hide hp
  have hcap := own_cap ho
  have hm2 : l.length ≤ 9223372036854775807 := by have := hcap.2; simp only [maxLen] at this; omega
  clear ho hp hcap
  go_enter Try.func85, Try.ntmps85
  go_wp2_with fail
  go_loop [8] (fun i => ∃ k : Nat, k ≤ l.length ∧ i = .int .i64 k ∧ ∀ j, j < k → p (nth l j) = false) (fun i => l.length - (intOf i).toNat)
  case atStart => exact ⟨0, Nat.zero_le _, rfl, fun j hj => absurd hj (Nat.not_lt_zero _)⟩
  case round =>
    obtain ⟨k, hk, rfl, hall⟩ := hrel
    have HA := hide hall
    clear hall
    by_cases hlt : k < l.length
    · have hlt' : (k : Int) < (l.length : Int) := by omega
      obtain ⟨g, rfl, c0, -⟩ := own_cell HO.out hlt
      have CL := hide (HP.out k hlt)
      cases hpk : p (nth l k)
      · have HK := hide hpk
        rw [hpk] at CL
        clear hpk
        go_wp2_with fail
        refine CL.out.mono ?_
        rintro r w1 ⟨rfl, e1⟩
        obtain rfl := e1.symm
        go_wp2_with fail
        go_round
        case rel => exact ⟨k + 1, by omega, by go_num, fun j hj => by
          by_cases e : j = k
          · rw [e]; exact HK.out
          · exact HA.out j (by omega)⟩
        case measure => simp [intOf]; omega
      · have HK := hide hpk
        rw [hpk] at CL
        clear hpk
        go_wp2_with fail
        refine CL.out.mono ?_
        rintro r w1 ⟨rfl, e1⟩
        obtain rfl := e1.symm
        go_wp2_with fail
        go_ret
        exact ⟨ret_int (idx_some hlt HA.out HK.out).symm, rfl⟩
    · have hlt' : ¬ ((k : Int) < (l.length : Int)) := by omega
      go_wp2_with fail
      go_ret
      exact ⟨ret_int (idx_none fun j hj => HA.out j (by omega)).symm, rfl⟩

theorem idx_any_iff (p : Int → Bool) (l : List Int) : decide (0 ≤ idx p l) = l.any p := by
  cases h : l.findIdx? p with
  | none =>
    have h2 := List.findIdx?_eq_none_iff.1 h
    have : l.any p = false := by rw [List.any_eq_false]; intro x hx; simp [h2 x hx]
    simp [idx, h, this]
  | some i =>
    obtain ⟨hi, hp, -⟩ := List.findIdx?_eq_some_iff_getElem.1 h
    have : l.any p = true := by rw [List.any_eq_true]; exact ⟨_, List.getElem_mem hi, hp⟩
    simp [idx, h, this]

set_option maxHeartbeats 1600000 in
theorem contains_any (n : FuncId) (caps : Array Value) (hn : ∀ (a : Array Value) (u : World), (callFunc n a).run Try.prog u = .ok (.enter n a) u) (p : Int → Bool) (v : Value) (l : List Int) (w : World)
    (ho : w.ownsRow 0 61 1 v l.length (us l)) (hp : ∀ k, k < l.length → Calls Try.prog n (#[.int .u64 (nth l k)] ++ caps) w fun r w' => r = .returned (.bool (p (nth l k))) ∧ w' = w) :
    Calls Try.prog 93 #[v, .func (.func n) #[] caps] w fun r w' => r = .returned (.bool (l.any p)) ∧ w' = w := by
  have IX := hide (index_any n caps hn p v l w ho hp)
  have HD := hide (idx_any_iff p l)
  obtain ⟨oa, c, rfl⟩ := own_sl ho
  clear ho hp hn
  generalize idx p l = x at *
  go_enter Try.func93, Try.ntmps93
  go_wp2_with fail
  refine IX.out.mono ?_
  rintro r w1 ⟨rfl, e1⟩
  obtain rfl := e1.symm
  go_wp2_with fail
  go_ret
  exact ⟨ret_bool HD.out, rfl⟩
end Ce
end Go.Proofs.Ytekdcfdjohlfcaa
/- Package cell, over this seat's program: rows of epochs: DeleteFunc. -/
namespace Go.Proofs.Ytekdcfdjohlfcaa
open Go.ChangeShapes Go.WideShapes Go.ChangeAt Go.RowKit
namespace Ce
open Ck
open Ba (KF Bd Nw hide)

theorem zero_e (w : World) : (zeroValue 61).run Try.prog w = .ok (.int .u64 0) w := by
  cases hi : Try.prog.info? 61 with
  | none => have := info_e; rw [hi] at this; cases this
  | some i0 =>
    have hx := info_e
    rw [hi] at hx
    simp at hx
    simp [zeroValue, typeInfo, hi, hx.1]
theorem heap_cells (b : Nat) : ∀ (vs : List Value) (o : Nat) (w : World) (k : Nat), k ≠ b → (w.setCells b o vs).heap[k]? = w.heap[k]?
  | [], _, _, _, _ => rfl
  | v :: r, o, w, k, h => by
    show ((w.setCell ⟨b, o, none⟩ v).setCells b (o + 1) r).heap[k]? = _
    rw [heap_cells b r _ _ k h]
    simp [World.setCell, Array.getElem?_modify, Ne.symm h]
theorem tape_cells (b : Nat) : ∀ (vs : List Value) (o : Nat) (w : World), (w.setCells b o vs).tape = w.tape ∧ (w.setCells b o vs).heap.size = w.heap.size ∧ (w.setCells b o vs).os = w.os ∧ (w.setCells b o vs).output = w.output
  | [], _, _ => ⟨rfl, rfl, rfl, rfl⟩
  | v :: r, o, w => by
    have ih := tape_cells b r (o + 1) (w.setCell ⟨b, o, none⟩ v)
    refine ⟨ih.1, ih.2.1.trans (by simp [World.setCell]), ih.2.2.1, ih.2.2.2⟩
/-- what the block holds behind a run of stores -/
theorem row_cells (b : Nat) (t : TypeId) (fr : Nat × Nat) : ∀ (vs : List Value) (o : Nat) (cur : Array Value) (w : World), w.heap[b]? = some (.cells cur t fr) →
    ∃ cur', (w.setCells b o vs).heap[b]? = some (.cells cur' t fr) ∧ cur'.size = cur.size ∧ (∀ k, k < o → cur'[k]? = cur[k]?) ∧ (∀ k, k < vs.length → o + k < cur.size → cur'[o + k]? = vs[k]?) ∧ ∀ k, o + vs.length ≤ k → cur'[k]? = cur[k]?
  | [], o, cur, w, h => ⟨cur, h, rfl, fun _ _ => rfl, fun k hk _ => absurd hk (Nat.not_lt_zero _), fun _ _ => rfl⟩
  | v :: r, o, cur, w, h => by
    obtain ⟨cur', h1, h2, h3, h4, h5⟩ := row_cells b t fr r (o + 1) (cur.setIfInBounds o v) (w.setCell ⟨b, o, none⟩ v) (Ba.heap_setCell_same h v)
    refine ⟨cur', h1, by rw [h2, Array.size_setIfInBounds], fun k hk => ?_, fun k hk hs => ?_, fun k hk => ?_⟩
    · rw [h3 k (by omega), Array.getElem?_setIfInBounds, if_neg (by omega)]
    · cases k with
      | zero =>
        rw [Nat.add_zero, h3 o (by omega), Array.getElem?_setIfInBounds, if_pos rfl, if_pos (by omega)]
        rfl
      | succ k =>
        have := h4 k (by simpa using hk) (by rw [Array.size_setIfInBounds]; omega)
        rw [show o + (k + 1) = o + 1 + k by omega, this, List.getElem?_cons_succ]
    · rw [h5 k (by simp at hk; omega), Array.getElem?_setIfInBounds, if_neg (by simp at hk; omega)]
theorem own_mk {W : World} {g cap : Nat} {cur : Array Value} {m : List Int} (hg : W.heap[g]? = some (.cells cur 61 (0, 0))) (hs : cur.size = cap) (hl : m.length ≤ cap) (hm : cap ≤ maxLen) (hc : ∀ k, k < m.length → cur[k]? = some (.int .u64 (nth m k))) :
    W.ownsRow 0 61 1 (.slice (some ⟨g, 0, none⟩) m.length cap) m.length (us m) := by
  refine ⟨us_len m, .inr ⟨g, cap, cur, rfl, Nat.zero_le _, hg, hl, hm, by omega, ?_⟩⟩
  apply List.ext_getElem?
  intro k
  rw [List.getElem?_take]
  by_cases hk : k < m.length
  · rw [if_pos (by omega), us_at m k hk, ← hc k hk]; simp
  · rw [if_neg (by omega), List.getElem?_eq_none (by rw [us_len]; omega)]
theorem own_cur {W : World} {g cap : Nat} {m : List Int} (h : W.ownsRow 0 61 1 (.slice (some ⟨g, 0, none⟩) m.length cap) m.length (us m)) :
    ∃ cur, W.heap[g]? = some (.cells cur 61 (0, 0)) ∧ cur.size = cap ∧ m.length ≤ cap ∧ cap ≤ maxLen ∧ ∀ k, k < m.length → cur[k]? = some (.int .u64 (nth m k)) := by
  rcases h.2 with ⟨e, -⟩ | ⟨g', cap', cur, e, -, hg, h1, h2, h3, h4⟩
  · cases e
  · simp only [Value.slice.injEq, Option.some.injEq, Addr.mk.injEq, and_true, true_and] at e
    obtain ⟨rfl, rfl⟩ := e
    refine ⟨cur, hg, by omega, h1, h2, fun k hk => ?_⟩
    rw [← us_at m k hk, ← h4, List.getElem?_take, if_pos (by omega)]
    simp

/-- what is left of the first j -/
def fl (p : Int → Bool) (l : List Int) (j : Nat) : List Int := (l.take j).filter fun x => !p x
theorem fl_succ {p : Int → Bool} {l : List Int} {j : Nat} (hj : j < l.length) : fl p l (j + 1) = fl p l j ++ (if p (nth l j) then [] else [nth l j]) := by
  unfold fl
  rw [List.take_succ_eq_append_getElem hj, List.filter_append, nth_lt l j hj]
  cases h : p l[j] <;> simp [h]
theorem fl_le (p : Int → Bool) (l : List Int) (j : Nat) : (fl p l j).length ≤ j := Nat.le_trans (List.length_filter_le _ _) (by simp; omega)
theorem fl_all (p : Int → Bool) (l : List Int) : fl p l l.length = l.filter fun x => !p x := by simp [fl]
theorem fl_pre {p : Int → Bool} {l : List Int} {k : Nat} (h : ∀ j, j < k → p (nth l j) = false) (hk : k ≤ l.length) : fl p l k = l.take k := by
  unfold fl
  rw [List.filter_eq_self]
  intro x hx
  obtain ⟨j, hj, rfl⟩ := List.getElem_of_mem hx
  have hj' : j < k := by simp at hj; omega
  have := h j hj'
  rw [nth_lt l j (by omega)] at this
  simp [this]
theorem nth_app_lt (a b : List Int) (k : Nat) (h : k < a.length) : nth (a ++ b) k = nth a k := by simp [nth, List.getElem?_append_left h]
theorem nth_app_at (a : List Int) (x : Int) : nth (a ++ [x]) a.length = x := by simp [nth]

/-- as it is struck: what is left of the first j stands ahead, the rest from j on as it was -/
structure DI (p : Int → Bool) (l : List Int) (g cap : Nat) (w W : World) (j : Nat) : Prop where
  ex : ∃ cur, W.heap[g]? = some (.cells cur 61 (0, 0)) ∧ cur.size = cap ∧ (∀ k, k < (fl p l j).length → cur[k]? = some (.int .u64 (nth (fl p l j) k))) ∧ ∀ k, j ≤ k → k < l.length → cur[k]? = some (.int .u64 (nth l k))
  gb : w.grownBy W (some g)

theorem DI.drop {p : Int → Bool} {l : List Int} {g cap : Nat} {w W : World} {j : Nat} (h : DI p l g cap w W j) (hj : j < l.length) (hp : p (nth l j) = true) : DI p l g cap w W (j + 1) := by
  obtain ⟨cur, h1, h2, h3, h4⟩ := h.ex
  have e : fl p l (j + 1) = fl p l j := by rw [fl_succ hj, hp]; simp
  exact ⟨⟨cur, h1, h2, by rw [e]; exact h3, fun k hk hl => h4 k (by omega) hl⟩, h.gb⟩
theorem DI.keep {p : Int → Bool} {l : List Int} {g cap : Nat} {w W : World} {j i : Nat} (h : DI p l g cap w W j) (hj : j < l.length) (hc : l.length ≤ cap) (hp : p (nth l j) = false) (hi : (fl p l j).length = i) : DI p l g cap w (W.setCell ⟨g, i, none⟩ (.int .u64 (nth l j))) (j + 1) := by
  subst hi
  obtain ⟨cur, h1, h2, h3, h4⟩ := h.ex
  have hle := fl_le p l j
  have e : fl p l (j + 1) = fl p l j ++ [nth l j] := by rw [fl_succ hj, hp]; simp
  refine ⟨⟨cur.setIfInBounds (fl p l j).length (.int .u64 (nth l j)), Ba.heap_setCell_same h1 _, by rw [Array.size_setIfInBounds]; exact h2, fun k hk => ?_, fun k hk hl => ?_⟩, ?_⟩
  · rw [e] at hk ⊢
    by_cases hk2 : k < (fl p l j).length
    · rw [Array.getElem?_setIfInBounds, if_neg (by omega), nth_app_lt _ _ _ hk2]; exact h3 k hk2
    · obtain rfl : k = (fl p l j).length := by simp at hk; omega
      rw [Array.getElem?_setIfInBounds, if_pos rfl, if_pos (by omega), nth_app_at]
  · rw [Array.getElem?_setIfInBounds, if_neg (by omega)]; exact h4 k (by omega) hl
  · exact ⟨h.gb.os, h.gb.tape, h.gb.output, by have := h.gb.size; simpa [World.setCell] using this, fun k hk hne => by
      have : (W.setCell ⟨g, (fl p l j).length, none⟩ (.int .u64 (nth l j))).heap[k]? = W.heap[k]? := by simp [World.setCell, Array.getElem?_modify, show g ≠ k from fun e => hne (by rw [e])]
      rw [this]; exact h.gb.block k hk hne⟩
theorem own_nil {w : World} {v : Value} (ho : w.ownsRow 0 61 1 v 0 (us [])) : w.ownsRow 0 61 1 v ([] : List Int).length (us []) := ho

set_option maxRecDepth 100000 in
set_option maxHeartbeats 3200000 in
theorem deleteF_any (n : FuncId) (caps : Array Value) (hn : ∀ (a : Array Value) (u : World), (callFunc n a).run Try.prog u = .ok (.enter n a) u) (p : Int → Bool) (v : Value) (l : List Int) (w : World)
    (ho : w.ownsRow 0 61 1 v l.length (us l)) (hp : ∀ W, w.grownBy W v.ownBlock → ∀ k, k < l.length → Calls Try.prog n (#[.int .u64 (nth l k)] ++ caps) W fun r w' => r = .returned (.bool (p (nth l k))) ∧ w' = W) :
    Calls Try.prog 75 #[v, .func (.func n) #[] caps] w fun r w' => ∃ v', r = .returned v' ∧ w'.ownsRow 0 61 1 v' (l.filter fun x => !p x).length (us (l.filter fun x => !p x)) ∧ v'.ownBlock = v.ownBlock ∧ w.grownBy w' v.ownBlock := by
  have gr : w.grownBy w v.ownBlock := ⟨rfl, rfl, rfl, Nat.le_refl _, fun _ _ _ => rfl⟩
  have IX := hide (index_any n caps hn p v l w ho (hp w gr))
  by_cases hall : ∀ j, j < l.length → p (nth l j) = false
  · have e : l.filter (fun x => !p x) = l := by rw [← fl_all, fl_pre hall (Nat.le_refl _), List.take_length]
    rw [idx_none hall] at IX
    rw [e]
    obtain ⟨oa, c, rfl⟩ := own_sl ho
    have HO := hide ho
    have GR := hide gr
    clear hall e hp ho gr hn
    go_enter Try.func75, Try.ntmps75
    go_wp2_with fail
    refine IX.out.mono ?_
    rintro r w1 ⟨rfl, e1⟩
    obtain rfl := e1.symm
    go_wp2_with fail
    go_ret
    exact ⟨_, rfl, HO.out, rfl, GR.out⟩
  · obtain ⟨k0, hk0, hpk, hpre⟩ : ∃ k, k < l.length ∧ p (nth l k) = true ∧ ∀ j, j < k → p (nth l j) = false := by
      have : ∃ i, l.findIdx? p = some i := by
        cases h : l.findIdx? p with
        | some i => exact ⟨i, rfl⟩
        | none =>
          exfalso; apply hall; intro j hj
          rw [nth_lt l j hj]
          have := (List.findIdx?_eq_none_iff.1 h) _ (List.getElem_mem hj)
          simpa using this
      obtain ⟨i, hi⟩ := this
      obtain ⟨h1, h2, h3⟩ := List.findIdx?_eq_some_iff_getElem.1 hi
      refine ⟨i, h1, by rw [nth_lt l i h1]; exact h2, fun j hj => ?_⟩
      rw [nth_lt l j (by omega)]
      have := h3 j hj
      simpa using this
    rw [idx_some hk0 hpre hpk] at IX
    obtain ⟨oa, c, rfl⟩ := own_sl ho
    obtain ⟨g, rfl, -⟩ := own_cell ho hk0
    obtain ⟨cur, hg, hsz, hlc, hcm, hcell⟩ := own_cur ho
    have hm2 : c ≤ 9223372036854775807 := by simp only [maxLen] at hcm; omega
    have D0 : Hid (DI p l g c w w (k0 + 1)) := by
      have d : DI p l g c w w k0 := ⟨⟨cur, hg, hsz, fun k hk => by
        rw [fl_pre hpre (by omega)] at hk ⊢
        have hk' : k < k0 := by simp at hk; omega
        rw [nth_take l k0 k hk']
        exact hcell k (by omega), fun k _ hl => hcell k hl⟩, gr⟩
      exact d.drop hk0 hpk
    have F0 : Hid ((fl p l (k0 + 1)).length = k0) := by
      show (fl p l (k0 + 1)).length = k0
      rw [fl_succ hk0, hpk, fl_pre hpre (by omega)]; simp; omega
    have HP := hide hp
    have hne1 : ((k0 : Int) == -1) = false := beq_eq_false_iff_ne.2 (by omega)
    have FA := hide (fl_all p l)
    clear hall hp ho gr hg hsz hcell hpk hpre
    go_enter Try.func75, Try.ntmps75
    go_wp2_with fail
    refine IX.out.mono ?_
    rintro r w1 ⟨rfl, e1⟩
    obtain rfl := e1.symm
    clear IX
    go_wp2_with fail
    go_loopw [5, 6] (fun i j wr => ∃ (jn m : Nat), jn ≤ l.length ∧ (fl p l jn).length = m ∧ m < jn ∧ i = .int .i64 (m : Int) ∧ j = .int .i64 (jn : Int) ∧ DI p l g c w wr jn) (fun _ j _ => l.length - (intOf j).toNat)
    case atStart => exact ⟨k0 + 1, k0, by omega, F0.out, by omega, rfl, by go_num, D0.out⟩
    case round =>
      clear D0 F0
      obtain ⟨jn, m, hj, hm, hmj, rfl, rfl, di⟩ := hrel
      have DD := hide di
      have HM := hide hm
      clear di hm
      by_cases hlt : jn < l.length
      · have hlt' : (jn : Int) < (l.length : Int) := by omega
        obtain ⟨cur', h1, h2, h3, h4⟩ := DD.out.ex
        have c0 : wr.cell? ⟨g, jn, none⟩ = some (.int .u64 (nth l jn)) := by rw [cell_of h1]; exact h4 jn (Nat.le_refl _) hlt
        have c1 : ∃ u, wr.cell? ⟨g, m, none⟩ = some u := by
          rw [cell_of h1]; exact ⟨_, Array.getElem?_eq_getElem (by omega)⟩
        obtain ⟨u1, c1⟩ := c1
        have f1 : wr.frozen? ⟨g, m, none⟩ = false := Ba.frozen_of h1 m
        have CL := hide (HP.out wr DD.out.gb jn hlt)
        clear h1 h2 h3 h4
        cases hpj : p (nth l jn)
        · have DK := hide (DD.out.keep hlt hlc hpj HM.out)
          have HK : Hid ((fl p l (jn + 1)).length = m + 1) := by
            show (fl p l (jn + 1)).length = m + 1
            rw [fl_succ hlt, hpj]; simp [HM.out]
          rw [hpj] at CL
          clear hpj
          have hml : (m : Int) < (l.length : Int) := by omega
          go_wp2_with fail
          refine CL.out.mono ?_
          rintro r w2 ⟨rfl, e2⟩
          obtain rfl := e2.symm
          clear CL
          go_wp2_with fail
          go_roundw
          case rel => exact ⟨jn + 1, m + 1, by omega, HK.out, by omega, by go_num, by go_num, DK.out⟩
          case measure => simp [intOf]; omega
        · have DK := hide (DD.out.drop hlt hpj)
          have HK : Hid ((fl p l (jn + 1)).length = m) := by
            show (fl p l (jn + 1)).length = m
            rw [fl_succ hlt, hpj]; simp [HM.out]
          rw [hpj] at CL
          clear hpj
          go_wp2_with fail
          refine CL.out.mono ?_
          rintro r w2 ⟨rfl, e2⟩
          obtain rfl := e2.symm
          clear CL
          go_wp2_with fail
          go_roundw
          case rel => exact ⟨jn + 1, m, by omega, HK.out, by omega, rfl, by go_num, DK.out⟩
          case measure => simp [intOf]; omega
      · have hje : jn = l.length := by omega
        have hlt' : ¬ ((jn : Int) < (l.length : Int)) := by omega
        have hml : (m : Int) ≤ (l.length : Int) := by omega
        obtain ⟨cur', h1, h2, h3, -⟩ := DD.out.ex
        have hcl : ∀ ty cc, (Builtin.clear_ #[86] ty #[.slice (some ⟨g, m, none⟩) (l.length - m) cc]).run Try.prog wr = .ok (.tuple #[]) (wr.setCells g m (List.replicate (l.length - m) (.int .u64 0))) :=
          fun ty cc => Lib.run_clear_slice _ _ _ ty _ Try.underlying86 zero_e rfl rfl g m (l.length - m) cc (by omega) (fun t ht => by rw [cell_of h1, Array.getElem?_eq_getElem (by omega)]; rfl) (fun t _ => Ba.frozen_of h1 _)
        obtain ⟨cur2, k1, k2, k3, -, -⟩ := row_cells g 61 (0, 0) (List.replicate (l.length - m) (.int .u64 0)) m cur' wr h1
        have FIN : Hid ((wr.setCells g m (List.replicate (l.length - m) (.int .u64 0))).ownsRow 0 61 1 (.slice (some ⟨g, 0, none⟩) m c) (l.filter fun x => !p x).length (us (l.filter fun x => !p x)) ∧ w.grownBy (wr.setCells g m (List.replicate (l.length - m) (.int .u64 0))) (some g)) := by
          have e : (l.filter fun x => !p x).length = m := by rw [← FA.out, ← hje]; exact HM.out
          refine ⟨?_, ?_⟩
          · rw [hje, FA.out] at h3
            have := own_mk (m := l.filter fun x => !p x) k1 (by rw [k2, h2]) (by omega) hcm (fun k hk => by rw [k3 k (by omega)]; exact h3 k hk)
            rw [e] at this ⊢
            exact this
          · have gb := DD.out.gb
            have tc := tape_cells g (List.replicate (l.length - m) (.int .u64 0)) m wr
            exact ⟨tc.2.2.1.trans gb.os, tc.1.trans gb.tape, tc.2.2.2.trans gb.output, by rw [tc.2.1]; exact gb.size, fun k hk hne => (heap_cells g _ m wr k (fun e => hne (by rw [e]))).trans (gb.block k hk hne)⟩
        have hmc : ¬ (c = m) := by omega
        clear h1 h2 h3 k1 k2 k3 DD HM FA
        generalize hW : wr.setCells g m (List.replicate (l.length - m) (.int .u64 0)) = W2 at *
        go_wp2_with fail
        go_ret
        exact ⟨_, rfl, FIN.out.1, rfl, FIN.out.2⟩
end Ce
end Go.Proofs.Ytekdcfdjohlfcaa
/- Contracts of package epoch (Pack, parts, Tid, Clock, isOwned, Check, Next, Seen, Less) and of the laws' own two(), each over this seat's program. -/
namespace Go.Proofs.Ytekdcfdjohlfcaa
open Go.ChangeShapes Go.WideShapes Go.ChangeAt Go.RowKit
namespace Ep

/-! plain: 64 bits as two halves -/
theorem lo_bits (e : Int) (h0 : 0 ≤ e) (h1 : e < 18446744073709551616) : bits .and .u64 e 4294967295 = e % 4294967296 := by
  rw [u64_and e 4294967295 h0 h1 (by decide) (by decide)]
  have h : e.toNat &&& (4294967295 : Int).toNat = e.toNat % 4294967296 := Nat.and_two_pow_sub_one_eq_mod e.toNat 32
  rw [h]; omega
theorem or_bits (t c : Int) (h0 : 0 ≤ t) (h1 : t ≤ 256) (h2 : 0 ≤ c) (h3 : c ≤ 1048576) : bits .or .u64 (t * 4294967296) c = t * 4294967296 + c := by
  rw [u64_or _ c (by omega) (by omega) h2 (by omega)]
  have h : (t * 4294967296).toNat ||| c.toNat = (t * 4294967296).toNat + c.toNat := nat_join 32 _ _ (by omega) (by omega)
  rw [h]; omega

theorem mkf : ∀ (fn : Fn) (first cap : Array Value) (w : World), (Instr.makeFunc fn first cap).run Try.prog w = .ok (.func fn first cap) w := fun _ _ _ _ => rfl

set_option maxHeartbeats 400000 in
theorem pack_ok (t c : Int) (h0 : 0 ≤ t) (h1 : t < 256) (h2 : 1 ≤ c) (h3 : c ≤ 1048576) (w : World) :
    Calls Try.prog 50 #[.int .i64 t, .int .i64 c] w fun r w' => r = .returned (.tuple #[.int .u64 ((t + 1) * 4294967296 + c), .int .i64 0]) ∧ w' = w := by
  have hb := or_bits (t + 1) c (by omega) (by omega) (by omega) h3
  go_enter Try.func50, Try.ntmps50
  go_wp2
  go_ret2
  exact ⟨rfl, rfl⟩

set_option maxHeartbeats 400000 in
theorem pack_no (t c : Int) (h : t < 0 ∨ 256 ≤ t ∨ c < 1 ∨ 1048576 < c) (w : World) :
    Calls Try.prog 50 #[.int .i64 t, .int .i64 c] w fun r w' => r = .returned (.tuple #[.int .u64 0, .int .i64 1]) ∧ w' = w := by
  by_cases a : t < 0
  · go_enter Try.func50, Try.ntmps50
    go_wp2
    go_ret2
    exact ⟨rfl, rfl⟩
  by_cases b : 256 ≤ t
  · go_enter Try.func50, Try.ntmps50
    go_wp2
    go_ret2
    exact ⟨rfl, rfl⟩
  by_cases hc : c < 1
  · clear h
    go_enter Try.func50, Try.ntmps50
    go_wp2
    go_ret2
    exact ⟨rfl, rfl⟩
  have d : decide (c ≤ 1048576) = false := by simp; omega
  clear h
  go_enter Try.func50, Try.ntmps50
  go_wp2
  go_ret2
  exact ⟨rfl, rfl⟩

set_option maxHeartbeats 400000 in
theorem parts_ok (e : Int) (h0 : 1 ≤ e / 4294967296) (h1 : e / 4294967296 ≤ 256) (h2 : 1 ≤ e % 4294967296) (h3 : e % 4294967296 ≤ 1048576) (w : World) :
    Calls Try.prog 89 #[.int .u64 e] w fun r w' => r = .returned (.tuple #[.int .i64 (e / 4294967296 - 1), .int .i64 (e % 4294967296)]) ∧ w' = w := by
  have hb := lo_bits e (by omega) (by omega)
  have a0 : 0 ≤ e := by omega
  have a1 : e ≤ 18446744073709551615 := by omega
  go_enter Try.func89, Try.ntmps89
  go_wp2
  go_ret2
  exact ⟨rfl, rfl⟩

set_option maxHeartbeats 400000 in
theorem parts_no (e : Int) (a0 : 0 ≤ e) (a1 : e ≤ 18446744073709551615) (h : e / 4294967296 < 1 ∨ 256 < e / 4294967296 ∨ e % 4294967296 < 1 ∨ 1048576 < e % 4294967296) (w : World) :
    Calls Try.prog 89 #[.int .u64 e] w fun r w' => r = .returned (.tuple #[.int .i64 (-1), .int .i64 0]) ∧ w' = w := by
  have hb := lo_bits e (by omega) (by omega)
  by_cases a : e / 4294967296 < 1
  · go_enter Try.func89, Try.ntmps89
    go_wp2
    go_ret2
    exact ⟨rfl, rfl⟩
  by_cases b : 256 < e / 4294967296
  · go_enter Try.func89, Try.ntmps89
    go_wp2
    go_ret2
    exact ⟨rfl, rfl⟩
  by_cases c : e % 4294967296 < 1
  · clear h
    go_enter Try.func89, Try.ntmps89
    go_wp2
    go_ret2
    exact ⟨rfl, rfl⟩
  have d : 1048576 < e % 4294967296 := by omega
  clear h
  go_enter Try.func89, Try.ntmps89
  go_wp2
  go_ret2
  exact ⟨rfl, rfl⟩

/-- a tid's clock -/
def Own (e : Int) : Prop := 1 ≤ e / 4294967296 ∧ e / 4294967296 ≤ 256 ∧ 1 ≤ e % 4294967296 ∧ e % 4294967296 ≤ 1048576
def ownB (e : Int) : Bool := decide (1 ≤ e / 4294967296 ∧ e / 4294967296 ≤ 256 ∧ 1 ≤ e % 4294967296 ∧ e % 4294967296 ≤ 1048576)
def tidOf (e : Int) : Int := bif ownB e then e / 4294967296 - 1 else -1
def clkOf (e : Int) : Int := bif ownB e then e % 4294967296 else 0
theorem tid_own (e : Int) (h : ownB e = true) : tidOf e = e / 4294967296 - 1 := by simp [tidOf, h]
theorem clk_own (e : Int) (h : ownB e = true) : clkOf e = e % 4294967296 := by simp [clkOf, h]
theorem tid_not (e : Int) (h : ownB e = false) : tidOf e = -1 := by simp [tidOf, h]
theorem clk_not (e : Int) (h : ownB e = false) : clkOf e = 0 := by simp [clkOf, h]
theorem own_bd (e : Int) (h : ownB e = true) : 1 ≤ e / 4294967296 ∧ e / 4294967296 ≤ 256 ∧ 1 ≤ e % 4294967296 ∧ e % 4294967296 ≤ 1048576 := by simpa [ownB] using h
theorem not_bd (e : Int) (h : ownB e = false) : e / 4294967296 < 1 ∨ 256 < e / 4294967296 ∨ e % 4294967296 < 1 ∨ 1048576 < e % 4294967296 := by
  have := of_decide_eq_false h; omega
theorem tid_rng (e : Int) : -1 ≤ tidOf e ∧ tidOf e ≤ 255 := by
  cases h : ownB e
  · rw [tid_not e h]; omega
  · rw [tid_own e h]; have := own_bd e h; omega
theorem clk_rng (e : Int) : 0 ≤ clkOf e ∧ clkOf e ≤ 1048576 := by
  cases h : ownB e
  · rw [clk_not e h]; omega
  · rw [clk_own e h]; have := own_bd e h; omega

theorem parts_any (e : Int) (a0 : 0 ≤ e) (a1 : e ≤ 18446744073709551615) (w : World) :
    Calls Try.prog 89 #[.int .u64 e] w fun r w' => r = .returned (.tuple #[.int .i64 (tidOf e), .int .i64 (clkOf e)]) ∧ w' = w := by
  cases h : ownB e
  · rw [tid_not e h, clk_not e h]; exact parts_no e a0 a1 (not_bd e h) w
  · rw [tid_own e h, clk_own e h]; obtain ⟨h0, h1, h2, h3⟩ := own_bd e h; exact parts_ok e h0 h1 h2 h3 w

set_option maxHeartbeats 400000 in
theorem tid_any (e : Int) (a0 : 0 ≤ e) (a1 : e ≤ 18446744073709551615) (w : World) :
    Calls Try.prog 77 #[.int .u64 e] w fun r w' => r = .returned (.int .i64 (tidOf e)) ∧ w' = w := by
  go_enter Try.func77, Try.ntmps77
  go_wp2_with (go_at_call 89; refine (parts_any e a0 a1 _).mono ?_; rintro r w' ⟨rfl, rfl⟩)
  go_ret
  exact ⟨rfl, rfl⟩

set_option maxHeartbeats 400000 in
theorem clk_any (e : Int) (a0 : 0 ≤ e) (a1 : e ≤ 18446744073709551615) (w : World) :
    Calls Try.prog 96 #[.int .u64 e] w fun r w' => r = .returned (.int .i64 (clkOf e)) ∧ w' = w := by
  go_enter Try.func96, Try.ntmps96
  go_wp2_with (go_at_call 89; refine (parts_any e a0 a1 _).mono ?_; rintro r w' ⟨rfl, rfl⟩)
  go_ret
  exact ⟨rfl, rfl⟩

set_option maxHeartbeats 400000 in
/-- between, of an epoch's Tid -/
theorem betw_tid (e l m : Int) (a0 : 0 ≤ e) (a1 : e ≤ 18446744073709551615) (w : World) :
    Calls Try.prog 95 #[.func (.func 77) #[.int .u64 e] #[], .int .i64 l, .int .i64 m] w fun r w' => r = .returned (.bool (decide (l ≤ tidOf e) && decide (tidOf e ≤ m))) ∧ w' = w := by
  by_cases h1 : l ≤ tidOf e <;> by_cases h2 : tidOf e ≤ m
  all_goals
    go_enter Try.func95, Try.ntmps95
    go_wp2_with (go_at_call 77; refine (tid_any e a0 a1 _).mono ?_; rintro r w' ⟨rfl, rfl⟩)
    go_ret
    simp [h1, h2]

set_option maxHeartbeats 400000 in
/-- between, of an epoch's Clock -/
theorem betw_clk (e l m : Int) (a0 : 0 ≤ e) (a1 : e ≤ 18446744073709551615) (w : World) :
    Calls Try.prog 95 #[.func (.func 96) #[.int .u64 e] #[], .int .i64 l, .int .i64 m] w fun r w' => r = .returned (.bool (decide (l ≤ clkOf e) && decide (clkOf e ≤ m))) ∧ w' = w := by
  by_cases h1 : l ≤ clkOf e <;> by_cases h2 : clkOf e ≤ m
  all_goals
    go_enter Try.func95, Try.ntmps95
    go_wp2_with (go_at_call 96; refine (clk_any e a0 a1 _).mono ?_; rintro r w' ⟨rfl, rfl⟩)
    go_ret
    simp [h1, h2]

theorem own_tid (e : Int) : (decide (0 ≤ tidOf e) && decide (tidOf e ≤ 255)) = ownB e := by
  cases h : ownB e
  · rw [tid_not e h]; rfl
  · rw [tid_own e h]; have := own_bd e h; simp; omega

set_option maxHeartbeats 400000 in
theorem isClock_any (n : Int) (w : World) :
    Calls Try.prog 63 #[.int .i64 n] w fun r w' => r = .returned (.bool (decide (1 ≤ n) && decide (n ≤ 1048576))) ∧ w' = w := by
  by_cases h1 : 1 ≤ n <;> by_cases h2 : n ≤ 1048576
  all_goals
    go_enter Try.func63, Try.ntmps63
    go_wp2
    go_ret
    simp [h1, h2]

theorem ret_epoch {a b : Int} {c : Int} (h : a = b) : Ending.returned (.tuple #[.int .u64 a, .int .i64 c]) = .returned (.tuple #[.int .u64 b, .int .i64 c]) := by rw [h]

end Ep
end Go.Proofs.Ytekdcfdjohlfcaa
/- Contracts of the reference's Pack and Read, of the laws' read(), and of epoch.Check, Seen, Less, over this seat's program. -/
namespace Go.Proofs.Ytekdcfdjohlfcaa
open Go.ChangeShapes Go.WideShapes Go.ChangeAt Go.RowKit
namespace Ep

/-- what 64 bits are, as the reference has it -/
def noneB (e : Int) : Bool := decide (e = 0)
def tailB (e : Int) : Bool := decide (e = 18446744073709551615)

set_option maxHeartbeats 800000 in
theorem rread_own (h l : Int) (h0 : 1 ≤ h) (h1 : h ≤ 256) (h2 : 1 ≤ l) (h3 : l ≤ 1048576) (w : World) :
    Calls Try.prog 55 #[.int .i64 h, .int .i64 l] w fun r w' => r = .returned (.tuple #[.agg #[.bool false, .bool false, .int .i64 (h - 1), .int .i64 l], .bool true]) ∧ w' = w.alloc (.cells #[.bool false, .bool false, .int .i64 (h - 1), .int .i64 l] 127) := by
  go_enter Try.func55, Try.ntmps55
  go_wp2
  exact bodyPost_ret (v := .tuple #[.agg #[.bool false, .bool false, .int .i64 (h - 1), .int .i64 l], .bool true]) (by simp [results, Try.results55, go_sem]) rfl ⟨rfl, rfl⟩

set_option maxHeartbeats 800000 in
theorem rread_none (w : World) :
    Calls Try.prog 55 #[.int .i64 0, .int .i64 0] w fun r w' => r = .returned (.tuple #[.agg #[.bool true, .bool false, .int .i64 0, .int .i64 0], .bool true]) ∧ w' = w.alloc (.cells #[.bool true, .bool false, .int .i64 0, .int .i64 0] 127) := by
  go_enter Try.func55, Try.ntmps55
  go_wp2
  exact bodyPost_ret (v := .tuple #[.agg #[.bool true, .bool false, .int .i64 0, .int .i64 0], .bool true]) (by simp [results, Try.results55, go_sem]) rfl ⟨rfl, rfl⟩

set_option maxHeartbeats 800000 in
theorem rread_tail (w : World) :
    Calls Try.prog 55 #[.int .i64 4294967295, .int .i64 4294967295] w fun r w' => r = .returned (.tuple #[.agg #[.bool false, .bool true, .int .i64 0, .int .i64 0], .bool true]) ∧ w' = w.alloc (.cells #[.bool false, .bool true, .int .i64 0, .int .i64 0] 127) := by
  go_enter Try.func55, Try.ntmps55
  go_wp2
  exact bodyPost_ret (v := .tuple #[.agg #[.bool false, .bool true, .int .i64 0, .int .i64 0], .bool true]) (by simp [results, Try.results55, go_sem]) rfl ⟨rfl, rfl⟩

set_option maxHeartbeats 1600000 in
theorem rread_bad (h l : Int) (hn : ¬ (h = 0 ∧ l = 0)) (ht : ¬ (h = 4294967295 ∧ l = 4294967295)) (ho : h < 1 ∨ 256 < h ∨ l < 1 ∨ 1048576 < l) (w : World) :
    Calls Try.prog 55 #[.int .i64 h, .int .i64 l] w fun r w' => r = .returned (.tuple #[.agg #[.bool false, .bool false, .int .i64 0, .int .i64 0], .bool false]) ∧ w' = w.alloc (.cells #[.bool false, .bool false, .int .i64 0, .int .i64 0] 127) := by
  by_cases a : h < 1
  · by_cases a1 : h = 0
    · have a2 : (l == 0) = false := by simp; omega
      subst a1; clear hn ht ho
      go_enter Try.func55, Try.ntmps55
      go_wp2
      exact bodyPost_ret (v := .tuple #[.agg #[.bool false, .bool false, .int .i64 0, .int .i64 0], .bool false]) (by simp [results, Try.results55, go_sem]) rfl ⟨rfl, rfl⟩
    · have a2 : (h == 0) = false := by simp; omega
      clear hn ht ho a1
      go_enter Try.func55, Try.ntmps55
      go_wp2
      exact bodyPost_ret (v := .tuple #[.agg #[.bool false, .bool false, .int .i64 0, .int .i64 0], .bool false]) (by simp [results, Try.results55, go_sem]) rfl ⟨rfl, rfl⟩
  have b0 : (h == 0) = false := by simp; omega
  by_cases b : 256 < h
  · by_cases b1 : h = 4294967295
    · have a2 : (l == 4294967295) = false := by simp; omega
      subst b1; clear hn ht ho b0 a
      go_enter Try.func55, Try.ntmps55
      go_wp2
      exact bodyPost_ret (v := .tuple #[.agg #[.bool false, .bool false, .int .i64 0, .int .i64 0], .bool false]) (by simp [results, Try.results55, go_sem]) rfl ⟨rfl, rfl⟩
    · have a2 : (h == 4294967295) = false := by simp; omega
      clear hn ht ho b1
      go_enter Try.func55, Try.ntmps55
      go_wp2
      exact bodyPost_ret (v := .tuple #[.agg #[.bool false, .bool false, .int .i64 0, .int .i64 0], .bool false]) (by simp [results, Try.results55, go_sem]) rfl ⟨rfl, rfl⟩
  have b1 : (h == 4294967295) = false := by simp; omega
  by_cases c : l < 1
  · clear hn ht ho
    go_enter Try.func55, Try.ntmps55
    go_wp2
    exact bodyPost_ret (v := .tuple #[.agg #[.bool false, .bool false, .int .i64 0, .int .i64 0], .bool false]) (by simp [results, Try.results55, go_sem]) rfl ⟨rfl, rfl⟩
  have d : 1048576 < l := by omega
  clear hn ht ho
  go_enter Try.func55, Try.ntmps55
  go_wp2
  exact bodyPost_ret (v := .tuple #[.agg #[.bool false, .bool false, .int .i64 0, .int .i64 0], .bool false]) (by simp [results, Try.results55, go_sem]) rfl ⟨rfl, rfl⟩

set_option maxHeartbeats 400000 in
theorem seen_none (c : Int) (w : World) :
    Calls Try.prog 84 #[.int .u64 0, .int .i64 c] w fun r w' => r = .returned (.bool true) ∧ w' = w := by
  go_enter Try.func84, Try.ntmps84
  go_wp2
  go_ret
  exact ⟨rfl, rfl⟩

set_option maxHeartbeats 400000 in
theorem seen_any (e c : Int) (a0 : 0 ≤ e) (a1 : e ≤ 18446744073709551615) (h1 : ¬ e = 0) (w : World) :
    Calls Try.prog 84 #[.int .u64 e, .int .i64 c] w fun r w' => r = .returned (.bool (decide (1 ≤ clkOf e) && decide (clkOf e ≤ c))) ∧ w' = w := by
  have g1 : (e == 0) = false := by simp; omega
  have hmf := mkf
  clear h1
  go_enter Try.func84, Try.ntmps84
  go_wp2_with (go_at_call 95; refine (betw_clk e _ _ a0 a1 _).mono ?_; rintro r w' ⟨rfl, rfl⟩)
  go_ret
  exact ⟨rfl, rfl⟩

end Ep
end Go.Proofs.Ytekdcfdjohlfcaa
/- What any 64 bits are, in one contract for the laws' read(), and Plain of it, over this seat's program. -/
namespace Go.Proofs.Ytekdcfdjohlfcaa
open Go.ChangeShapes Go.WideShapes Go.ChangeAt Go.RowKit
namespace Ep

def rdN (e : Int) : Bool := decide (e = 0)
def rdT (e : Int) : Bool := decide (e = 18446744073709551615)
def rdt (e : Int) : Int := bif ownB e then e / 4294967296 - 1 else 0
def rdc (e : Int) : Int := bif ownB e then e % 4294967296 else 0
def rdk (e : Int) : Bool := ownB e || rdN e || rdT e

theorem rd_none : rdN 0 = true ∧ rdT 0 = false ∧ rdt 0 = 0 ∧ rdc 0 = 0 ∧ rdk 0 = true := by decide
theorem rd_tail : rdN 18446744073709551615 = false ∧ rdT 18446744073709551615 = true ∧ rdt 18446744073709551615 = 0 ∧ rdc 18446744073709551615 = 0 ∧ rdk 18446744073709551615 = true := by decide
theorem rd_own (e : Int) (h : ownB e = true) : rdN e = false ∧ rdT e = false ∧ rdt e = e / 4294967296 - 1 ∧ rdc e = e % 4294967296 ∧ rdk e = true := by
  have hb := own_bd e h
  refine ⟨?_, ?_, ?_, ?_, ?_⟩
  · simp [rdN]; omega
  · simp [rdT]; omega
  · simp [rdt, h]
  · simp [rdc, h]
  · simp [rdk, h]
theorem rd_bad (e : Int) (h : ownB e = false) (hn : ¬ e = 0) (ht : ¬ e = 18446744073709551615) : rdN e = false ∧ rdT e = false ∧ rdt e = 0 ∧ rdc e = 0 ∧ rdk e = false := by
  refine ⟨?_, ?_, ?_, ?_, ?_⟩
  · simp [rdN]; omega
  · simp [rdT]; omega
  · simp [rdt, h]
  · simp [rdc, h]
  · simp [rdk, h, rdN, rdT]; omega

theorem plain_rd (e : Int) : (rdk e && !rdN e && !rdT e) = ownB e := by
  by_cases hn : e = 0
  · subst hn; decide
  by_cases ht : e = 18446744073709551615
  · subst ht; decide
  cases ho : ownB e
  · obtain ⟨e1, e2, e3, e4, e5⟩ := rd_bad e ho hn ht
    rw [e1, e2, e5]; rfl
  · obtain ⟨e1, e2, e3, e4, e5⟩ := rd_own e ho
    rw [e1, e2, e5]; rfl

set_option maxHeartbeats 800000 in
theorem plain_any (n t ok : Bool) (x y : Int) (w : World) :
    Calls Try.prog 56 #[.agg #[.bool n, .bool t, .int .i64 x, .int .i64 y], .bool ok] w fun r w' => r = .returned (.bool (ok && !n && !t)) ∧ w' = w.alloc (.cells #[.bool n, .bool t, .int .i64 x, .int .i64 y] 127) := by
  cases ok <;> cases n <;> cases t
  all_goals
    go_enter Try.func56, Try.ntmps56
    go_wp2
    go_ret
    exact ⟨rfl, rfl⟩

theorem plain_e (e : Int) (w : World) :
    Calls Try.prog 56 #[.agg #[.bool (rdN e), .bool (rdT e), .int .i64 (rdt e), .int .i64 (rdc e)], .bool (rdk e)] w fun r w' => r = .returned (.bool (ownB e)) ∧ w' = w.alloc (.cells #[.bool (rdN e), .bool (rdT e), .int .i64 (rdt e), .int .i64 (rdc e)] 127) := by
  have h := plain_any (rdN e) (rdT e) (rdk e) (rdt e) (rdc e) w
  rw [plain_rd] at h
  exact h

end Ep
end Go.Proofs.Ytekdcfdjohlfcaa
/- Package cell, over this seat's program: where a tid's read stands (BinarySearchFunc, find). -/
namespace Go.Proofs.Ytekdcfdjohlfcaa
open Go.ChangeShapes Go.WideShapes Go.ChangeAt Go.RowKit
namespace Ce
open Ck
open Ba (KF Bd Nw hide)
open Ep (tidOf clkOf ownB)

theorem nan_any (x : Int) (w : World) : Calls Try.prog 97 #[.int .i64 x] w fun r w' => r = .returned (.bool false) ∧ w' = w := by
  go_enter Try.func97, Try.ntmps97
  go_wp2_with fail
  go_ret
  exact ⟨by simp, rfl⟩
/-- less, equal, more -/
def cmpI (x y : Int) : Int := if x < y then -1 else if y < x then 1 else 0
theorem cmp_any (x y : Int) (w : World) : Calls Try.prog 88 #[.int .i64 x, .int .i64 y] w fun r w' => r = .returned (.int .i64 (cmpI x y)) ∧ w' = w := by
  by_cases h1 : x < y
  · have e : Hid (cmpI x y = -1) := by show cmpI x y = -1; simp [cmpI, h1]
    go_enter Try.func88, Try.ntmps88
    go_wp2_with (go_at_call 97; refine (nan_any _ _).mono ?_; rintro r w' ⟨rfl, rfl⟩)
    go_ret
    exact ⟨ret_int e.out.symm, rfl⟩
  by_cases h2 : y < x
  · have e : Hid (cmpI x y = 1) := by show cmpI x y = 1; simp [cmpI, h1, h2]
    go_enter Try.func88, Try.ntmps88
    go_wp2_with (go_at_call 97; refine (nan_any _ _).mono ?_; rintro r w' ⟨rfl, rfl⟩)
    go_ret
    exact ⟨ret_int e.out.symm, rfl⟩
  · have e : Hid (cmpI x y = 0) := by show cmpI x y = 0; simp [cmpI, h1, h2]
    go_enter Try.func88, Try.ntmps88
    go_wp2_with (go_at_call 97; refine (nan_any _ _).mono ?_; rintro r w' ⟨rfl, rfl⟩)
    go_ret
    exact ⟨ret_int e.out.symm, rfl⟩
theorem fd1_any (e t : Int) (a0 : 0 ≤ e) (a1 : e ≤ 18446744073709551615) (w : World) : Calls Try.prog 87 #[.int .u64 e, .int .i64 t] w fun r w' => r = .returned (.int .i64 (cmpI (tidOf e) t)) ∧ w' = w := by
  go_enter Try.func87, Try.ntmps87
  go_wp2_with fail
  refine (Ep.tid_any e a0 a1 _).mono ?_
  rintro r w1 ⟨rfl, e1⟩
  obtain rfl := e1.symm
  go_wp2_with fail
  refine (cmp_any _ _ _).mono ?_
  rintro r w1 ⟨rfl, e1⟩
  obtain rfl := e1.symm
  go_wp2_with fail
  go_ret
  exact ⟨rfl, rfl⟩

/-- the tids rise -/
def Srt (l : List Int) : Prop := ∀ i j, i < j → j < l.length → tidOf (nth l i) < tidOf (nth l j)
/-- where a tid's stands, or is to stand -/
def pos (l : List Int) (t : Int) : Nat := (l.takeWhile fun e => decide (tidOf e < t)).length
def has (l : List Int) (t : Int) : Bool := l.any fun e => tidOf e == t
theorem tw_len (p : Int → Bool) : ∀ (l : List Int) (i : Nat), i ≤ l.length → (∀ k, k < i → p (nth l k) = true) → (i < l.length → p (nth l i) = false) → (l.takeWhile p).length = i
  | [], i, h, _, _ => by simp at h; simp [h]
  | x :: r, 0, _, _, h => by
    have := h (by simp)
    rw [nth_cons_zero] at this
    simp [this]
  | x :: r, i + 1, hl, h1, h2 => by
    have hx := h1 0 (by omega)
    rw [nth_cons_zero] at hx
    rw [List.takeWhile_cons, if_pos hx, List.length_cons, tw_len p r i (by simpa using hl) (fun k hk => by have := h1 (k + 1) (by omega); rwa [nth_cons_succ] at this) (fun hi => by have := h2 (by simpa using hi); rwa [nth_cons_succ] at this)]
theorem pos_is {l : List Int} {t : Int} {i : Nat} (hi : i ≤ l.length) (h1 : ∀ k, k < i → tidOf (nth l k) < t) (h2 : ∀ k, i ≤ k → k < l.length → t ≤ tidOf (nth l k)) : pos l t = i :=
  tw_len _ l i hi (fun k hk => by simpa using h1 k hk) (fun hl => by simpa using h2 i (Nat.le_refl _) hl)
theorem has_yes {l : List Int} {t : Int} {i : Nat} (hi : i < l.length) (h : tidOf (nth l i) = t) : has l t = true := by
  unfold has
  rw [List.any_eq_true]
  exact ⟨_, List.getElem_mem hi, by rw [nth_lt l i hi] at h; simpa using h⟩
theorem has_no {l : List Int} {t : Int} (h : ∀ k, k < l.length → tidOf (nth l k) ≠ t) : has l t = false := by
  unfold has
  rw [List.any_eq_false]
  intro x hx
  obtain ⟨k, hk, rfl⟩ := List.getElem_of_mem hx
  have := h k hk
  rw [nth_lt l k hk] at this
  simpa using this

theorem cmp_lt {x y : Int} : cmpI x y < 0 ↔ x < y := by unfold cmpI; split <;> (try split) <;> omega
theorem cmp_eq {x y : Int} : cmpI x y = 0 ↔ x = y := by unfold cmpI; split <;> (try split) <;> omega

set_option maxRecDepth 100000 in
set_option maxHeartbeats 3200000 in
theorem search_any (v : Value) (l : List Int) (t : Int) (w : World) (ho : w.ownsRow 0 61 1 v l.length (us l)) (hu : U64 l) (hs : Srt l) (hl : l.length ≤ 100000) :
    Calls Try.prog 86 #[v, .int .i64 t, .func (.func 87) #[] #[]] w fun r w' => r = .returned (.tuple #[.int .i64 (pos l t : Nat), .bool (has l t)]) ∧ w' = w := by
  obtain ⟨oa, c, rfl⟩ := own_sl ho
  have HO := hide ho
  have HU := hide hu
  have HS := hide hs
  clear ho hu hs
  obtain ⟨P, hP⟩ : ∃ P, pos l t = P := ⟨_, rfl⟩
  obtain ⟨B, hB⟩ : ∃ B, has l t = B := ⟨_, rfl⟩
  have HP := hide hP
  have HB := hide hB
  rw [hP, hB]
  clear hP hB
  go_enter Try.func86, Try.ntmps86
  go_wp2_with fail
  go_loop [9, 10] (fun a b => ∃ lo hi : Nat, a = .int .i64 (lo : Int) ∧ b = .int .i64 (hi : Int) ∧ lo ≤ hi ∧ hi ≤ l.length ∧ Hid ((∀ k, k < lo → tidOf (nth l k) < t) ∧ ∀ k, hi ≤ k → k < l.length → t ≤ tidOf (nth l k))) (fun a b => (intOf b).toNat - (intOf a).toNat)
  case atStart => exact ⟨0, l.length, rfl, rfl, Nat.zero_le _, Nat.le_refl _, ⟨fun k hk => absurd hk (Nat.not_lt_zero _), fun k h1 h2 => by omega⟩⟩
  case round =>
    obtain ⟨lo, hi, rfl, rfl, hlh, hin, I⟩ := hrel
    by_cases hlt : lo < hi
    · obtain ⟨m, hm⟩ : ∃ m : Nat, m = (lo + hi) / 2 := ⟨_, rfl⟩
      have hm1 : lo ≤ m ∧ m < hi := by omega
      have hml : m < l.length := by omega
      obtain ⟨g, rfl, c0, -⟩ := own_cell HO.out hml
      have hmi : ((lo : Int) + (hi : Int)) / 2 = (m : Int) := by omega
      have hmn : (lo + hi) / 2 = m := hm.symm
      have c1 := c0
      rw [hm] at c1
      have CL := hide (fd1_any (nth l m) t (HU.out.nth m).1 (HU.out.nth m).2 w)
      have hlt' : (lo : Int) < (hi : Int) := by omega
      clear hm
      by_cases hy : cmpI (tidOf (nth l m)) t < 0
      · have hyT := hide (cmp_lt.1 hy)
        generalize cmpI (tidOf (nth l m)) t = y at *
        go_wp2_with fail
        refine CL.out.mono ?_
        rintro r w1 ⟨rfl, e1⟩
        obtain rfl := e1.symm
        go_wp2_with fail
        go_round
        case rel => exact ⟨m + 1, hi, by go_num, rfl, by omega, hin, ⟨fun k hk => by
            by_cases e : k = m
            · rw [e]; exact hyT.out
            · have := HS.out k m (by omega) hml; have := hyT.out; omega, I.out.2⟩⟩
        case measure => simp [intOf]; omega
      · have hyT : Hid (t ≤ tidOf (nth l m)) := by
          show t ≤ tidOf (nth l m)
          have : ¬ tidOf (nth l m) < t := fun h => hy (cmp_lt.2 h)
          omega
        generalize cmpI (tidOf (nth l m)) t = y at *
        go_wp2_with fail
        refine CL.out.mono ?_
        rintro r w1 ⟨rfl, e1⟩
        obtain rfl := e1.symm
        go_wp2_with fail
        go_round
        case rel => exact ⟨lo, m, rfl, rfl, by omega, by omega, ⟨I.out.1, fun k hk hkl => by
            by_cases e : k = m
            · rw [e]; exact hyT.out
            · have := HS.out m k (by omega) hkl; have := hyT.out; omega⟩⟩
        case measure => simp [intOf]; omega
    · obtain rfl : hi = lo := by omega
      have hP : P = hi := HP.out.symm.trans (pos_is hin I.out.1 I.out.2)
      subst hP
      by_cases hn : P < l.length
      · have hn' : (P : Int) < (l.length : Int) := by omega
        obtain ⟨g, rfl, c0, -⟩ := own_cell HO.out hn
        have CL := hide (fd1_any (nth l P) t (HU.out.nth P).1 (HU.out.nth P).2 w)
        by_cases hy : cmpI (tidOf (nth l P)) t = 0
        · have hB : B = true := HB.out.symm.trans (has_yes hn (cmp_eq.1 hy))
          subst hB
          rw [hy] at CL
          clear hy
          go_wp2_with fail
          refine CL.out.mono ?_
          rintro r w1 ⟨rfl, e1⟩
          obtain rfl := e1.symm
          go_wp2_with fail
          go_ret2
          exact ⟨rfl, rfl⟩
        · have hB : B = false := HB.out.symm.trans (has_no fun k hk => by
            rcases Nat.lt_trichotomy k P with q | q | q
            · have := I.out.1 k q; omega
            · rw [q]; exact fun e => hy (cmp_eq.2 e)
            · have := HS.out P k q hk
              have := I.out.2 P (Nat.le_refl _) hn
              omega)
          subst hB
          have hyb : (cmpI (tidOf (nth l P)) t == 0) = false := beq_eq_false_iff_ne.2 hy
          clear hy
          generalize cmpI (tidOf (nth l P)) t = y at *
          go_wp2_with fail
          refine CL.out.mono ?_
          rintro r w1 ⟨rfl, e1⟩
          obtain rfl := e1.symm
          go_wp2_with fail
          go_ret2
          exact ⟨rfl, rfl⟩
      · have hn' : ¬ ((P : Int) < (l.length : Int)) := by omega
        have hB : B = false := HB.out.symm.trans (has_no fun k hk => by have := I.out.1 k (by omega); omega)
        subst hB
        go_wp2_with fail
        go_ret2
        exact ⟨rfl, rfl⟩
end Ce
end Go.Proofs.Ytekdcfdjohlfcaa
/- Package cell, over this seat's program: rows of epochs: Delete of one, Insert of one. -/
namespace Go.Proofs.Ytekdcfdjohlfcaa
open Go.ChangeShapes Go.WideShapes Go.ChangeAt Go.RowKit
namespace Ce
open Ck
open Ba (KF Bd Nw hide)

theorem step_append_e {ops : Array Oper} (w : World) {o : Oper} {a : Act} {K : Act → World → Prop} {Q : Exit → Act → World → Prop} {E : Prop} (hgd : o.guard = none) (s x : Operand) (t tn : TypeId)
    (ho : o.op = .call { callee := .builtin .append, args := #[s, x], argTypes := #[t, tn] }) (vs vx : Value) (hs : a.eval s = vs) (hx : a.eval x = vx)
    (v' : Value) (w' : World) (hr : (Builtin.append_ #[t, tn] o.type #[vs, vx]).run Try.prog w = .ok v' w') (h : K (a.put o.dst v') w') :
    if Region.wanted o (yielded ops a.tmps) = true then Oper.wp Try.prog o a w K Q else E := by
  have hw : Region.wanted o (yielded ops a.tmps) = true := by simp [Region.wanted, hgd]
  rw [if_pos hw]
  exact Lib.wp_append_run w s x t tn ho vs vx hs hx v' w' hr h
/-- without the i'th -/
def outL (l : List Int) (i : Nat) : List Int := l.take i ++ l.drop (i + 1)
theorem out_len (l : List Int) (i : Nat) (h : i < l.length) : (outL l i).length = l.length - 1 := by simp [outL]; omega
/-- with e at the i'th place -/
def insL (l : List Int) (i : Nat) (e : Int) : List Int := l.take i ++ e :: l.drop i
theorem ins_len (l : List Int) (i : Nat) (e : Int) (h : i ≤ l.length) : (insL l i e).length = l.length + 1 := by simp [insL]; omega
theorem nth_out_lt (l : List Int) (i k : Nat) (h : i < l.length) (hk : k < i) : nth (outL l i) k = nth l k := by
  simp only [nth, outL, List.getD_eq_getElem?_getD]
  rw [List.getElem?_append_left (by simp; omega), List.getElem?_take, if_pos hk]
theorem nth_out_ge (l : List Int) (i k : Nat) (h : i < l.length) (hk : i ≤ k) : nth (outL l i) k = nth l (k + 1) := by
  simp only [nth, outL, List.getD_eq_getElem?_getD]
  rw [List.getElem?_append_right (by simp; omega), List.getElem?_drop]
  congr 2
  simp; omega
theorem nth_ins_lt (l : List Int) (i k : Nat) (e : Int) (h : i ≤ l.length) (hk : k < i) : nth (insL l i e) k = nth l k := by
  simp only [nth, insL, List.getD_eq_getElem?_getD]
  rw [List.getElem?_append_left (by simp; omega), List.getElem?_take, if_pos hk]
theorem nth_ins_at (l : List Int) (i : Nat) (e : Int) (h : i ≤ l.length) : nth (insL l i e) i = e := by
  simp only [nth, insL, List.getD_eq_getElem?_getD]
  rw [List.getElem?_append_right (by simp; omega)]
  have : i - (List.take i l).length = 0 := by simp; omega
  rw [this]; rfl
theorem nth_ins_gt (l : List Int) (i k : Nat) (e : Int) (h : i ≤ l.length) (hk : i < k) : nth (insL l i e) k = nth l (k - 1) := by
  simp only [nth, insL, List.getD_eq_getElem?_getD]
  rw [List.getElem?_append_right (by simp; omega)]
  obtain ⟨d, rfl⟩ : ∃ d, k = i + 1 + d := ⟨k - (i + 1), by omega⟩
  have : i + 1 + d - (List.take i l).length = d + 1 := by simp; omega
  rw [this, List.getElem?_cons_succ, List.getElem?_drop]
  congr 2
  omega
theorem us_drop (l : List Int) (k : Nat) : us (l.drop k) = (us l).drop k := by simp [us]
theorem info_e1 : (Try.prog.info? 61).map (·.size) = some 1 := by
  obtain ⟨i0, hi0, h0, h1, h2⟩ := info_parts info_e
  rw [hi0]; simp [h1]

set_option maxRecDepth 100000 in
set_option maxHeartbeats 3200000 in
theorem delete_any (v : Value) (l : List Int) (i : Nat) (w : World) (ho : w.ownsRow 0 61 1 v l.length (us l)) (hil : i < l.length) :
    Calls Try.prog 81 #[v, .int .i64 (i : Int), .int .i64 ((i : Int) + 1)] w fun r w' => ∃ v', r = .returned v' ∧ w'.ownsRow 0 61 1 v' (outL l i).length (us (outL l i)) ∧ v'.ownBlock = v.ownBlock ∧ w.grownBy w' v.ownBlock := by
  obtain ⟨oa, cap, rfl⟩ := own_sl ho
  obtain ⟨g, rfl, -⟩ := own_cell ho hil
  obtain ⟨cur, hg, hsz, hlc, hcm, hcell⟩ := own_cur ho
  have hm2 : cap ≤ 9223372036854775807 := by simp only [maxLen] at hcm; omega
  obtain ⟨i0, hi, hx0, hx1, hx2⟩ := info_parts info_e
  obtain ⟨n, hn⟩ : ∃ n, l.length = n + 1 := ⟨l.length - 1, by omega⟩
  rw [out_len l i hil]
  have hnn : l.length - 1 = n := by omega
  rw [hnn]
  have hdl : (us (l.drop (i + 1))).length = (n - i) * 1 := by rw [us_len, List.length_drop]; omega
  have hsrc : ∀ j u, (us (l.drop (i + 1)))[j]? = some u → w.drew.cell? ((⟨g, i + 1, none⟩ : Addr).add j) = some u := by
    intro j u hj
    rw [Addr.add_lit]
    show w.cell? ⟨g, i + 1 + j, none⟩ = some u
    rw [cell_of hg]
    rw [us_drop, List.getElem?_drop] at hj
    have hlt : i + 1 + j < l.length := by
      have := (List.getElem?_eq_some_iff.1 hj).1
      simpa [us] using this
    rw [us_at l _ hlt] at hj
    rw [hcell _ hlt, hj]
  have hr : (Builtin.append_ #[86, 86] 86 #[.slice (some ⟨g, 0, none⟩) i cap, .slice (if cap = i + 1 then some ⟨g, 0, none⟩ else some ⟨g, i + 1, none⟩) (n - i) (cap - (i + 1))]).run Try.prog w.drew = .ok (.slice (some ⟨g, 0, none⟩) n cap) (w.drew.setRow g (cur.toList.take i ++ us (l.drop (i + 1)) ++ cur.toList.drop n).toArray) := by
    have hni : i + (n - i) = n := by omega
    by_cases hc1 : cap = i + 1
    · have h0 : n - i = 0 := by omega
      have e0 : us (l.drop (i + 1)) = [] := List.eq_nil_of_length_eq_zero (by rw [hdl]; omega)
      have hr := run_append_room (P := Try.prog) w.drew 86 86 61 i0 Try.underlying86 hi g i cap cur hg ⟨g, 0, none⟩ 0 (cap - (i + 1)) [] (by simp) (by simp) (by simp) (by omega) (by simp [hx1]; omega)
      rw [if_pos hc1, h0, e0]
      have hin : i = n := by omega
      simpa [hx1, hin] using hr
    · have hr := run_append_room (P := Try.prog) w.drew 86 86 61 i0 Try.underlying86 hi g i cap cur hg ⟨g, i + 1, none⟩ (n - i) (cap - (i + 1)) (us (l.drop (i + 1))) (by rw [hx1]; exact hdl) hsrc (us_one _) (by omega) (by rw [hdl, hx1]; omega)
      rw [if_neg hc1]
      simp only [hx1, Nat.mul_one, hdl, hni] at hr
      exact hr
  have hlen1 : (cur.toList.take i ++ us (l.drop (i + 1)) ++ cur.toList.drop n).toArray.size = cap := by
    have : (us (l.drop (i + 1))).length = n - i := by rw [hdl]; omega
    simp [this]; omega
  have hg1 : (w.drew.setRow g (cur.toList.take i ++ us (l.drop (i + 1)) ++ cur.toList.drop n).toArray).heap[g]? = some (.cells (cur.toList.take i ++ us (l.drop (i + 1)) ++ cur.toList.drop n).toArray 61 (0, 0)) := by
    have hg' : w.drew.heap[g]? = some (.cells cur 61 (0, 0)) := hg
    simp only [World.setRow, Array.getElem?_modify, if_true, hg', Option.map_some]
  have hcl : ∀ ty c, (Builtin.clear_ #[86] ty #[.slice (some ⟨g, n, none⟩) 1 c]).run Try.prog (w.drew.setRow g (cur.toList.take i ++ us (l.drop (i + 1)) ++ cur.toList.drop n).toArray) = .ok (.tuple #[]) ((w.drew.setRow g (cur.toList.take i ++ us (l.drop (i + 1)) ++ cur.toList.drop n).toArray).setCell ⟨g, n, none⟩ (.int .u64 0)) :=
    fun ty c => Lib.run_clear_slice _ _ _ ty _ Try.underlying86 zero_e rfl rfl g n 1 c (by omega) (fun t ht => by rw [cell_of hg1, Array.getElem?_eq_getElem (by rw [hlen1]; omega)]; rfl) (fun t _ => Ba.frozen_of hg1 _)
  have hg2 := Ba.heap_setCell_same (i := n) hg1 (.int .u64 0)
  have hcells : ∀ k, k < (outL l i).length → ((cur.toList.take i ++ us (l.drop (i + 1)) ++ cur.toList.drop n).toArray.setIfInBounds n (.int .u64 0))[k]? = some (.int .u64 (nth (outL l i) k)) := by
    intro k hk
    rw [out_len l i hil] at hk
    rw [Array.getElem?_setIfInBounds, if_neg (by omega), List.getElem?_toArray, List.append_assoc]
    by_cases hki : k < i
    · rw [List.getElem?_append_left (by simp; omega), List.getElem?_take, if_pos hki, nth_out_lt l i k hil hki, ← hcell k (by omega)]
      simp
    · have hti : (List.take i cur.toList).length = i := by simp; omega
      rw [List.getElem?_append_right (by omega), hti, List.getElem?_append_left (by rw [hdl]; omega), us_drop, List.getElem?_drop, us_at l _ (by omega), nth_out_ge l i k hil (by omega)]
      congr 3
      omega
  have FIN : Hid (∀ c, c = cap → ((w.drew.setRow g (cur.toList.take i ++ us (l.drop (i + 1)) ++ cur.toList.drop n).toArray).setCell ⟨g, n, none⟩ (.int .u64 0)).ownsRow 0 61 1 (.slice (some ⟨g, 0, none⟩) n c) n (us (outL l i)) ∧ w.grownBy ((w.drew.setRow g (cur.toList.take i ++ us (l.drop (i + 1)) ++ cur.toList.drop n).toArray).setCell ⟨g, n, none⟩ (.int .u64 0)) (some g)) := by
    intro c hc
    subst hc
    refine ⟨?_, ⟨rfl, rfl, rfl, ?_, fun k hk hne => ?_⟩⟩
    · have := own_mk (m := outL l i) hg2 (by rw [Array.size_setIfInBounds, hlen1]) (by rw [out_len l i hil]; omega) hcm hcells
      rw [out_len l i hil, hnn] at this
      exact this
    · simp [World.setCell, World.setRow]
    · have hne' : g ≠ k := fun e => hne (by rw [e])
      simp [World.setCell, World.setRow, Array.getElem?_modify, hne']
      rfl
  have HR := hide hr
  have e01 : (i : Int) + 1 ≤ (l.length : Int) := by omega
  have e02 : (i : Int) + 1 ≤ (cap : Int) := by omega
  have e03 : ¬ ((i : Int) = (i : Int) + 1) := by omega
  have e04 : l.length - (i + 1) = n - i := by omega
  have e05 : (l.length : Int) - (n : Int) = 1 := by omega
  have e06 : l.length - n = 1 := by omega
  have e07 : ¬ (cap = n) := by omega
  have e08 : n ≤ l.length := by omega
  have e09 : l.length ≤ cap := hlc
  have e10 : (i : Int) ≤ (cap : Int) := by omega
  have e11 : i ≤ cap := by omega
  have e12 : (0 : Int) ≤ (i : Int) + 1 := by omega
  clear hr hi hx0 hx1 hx2 hg hsz hcell hg1 hg2 hlen1 hcells hsrc hdl hnn hn ho
  generalize hA : (cur.toList.take i ++ us (l.drop (i + 1)) ++ cur.toList.drop n).toArray = A at *
  generalize hL : l.length = L at *
  clear hA
  go_enter Try.func81, Try.ntmps81
  go_wp2_with fail
  go_region_law (refine step_append_e _ (by rfl) _ _ _ _ (by rfl) _ _ (by rfl) (by rfl) _ _ HR.out ?_)
  all_goals
    go_wp2_with fail
  all_goals
    go_ret
    exact ⟨_, rfl, (FIN.out _ (by first | rfl | omega)).1, rfl, (FIN.out _ rfl).2⟩
end Ce
end Go.Proofs.Ytekdcfdjohlfcaa
