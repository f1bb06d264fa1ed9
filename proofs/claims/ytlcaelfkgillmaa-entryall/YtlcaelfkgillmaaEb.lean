/- Package reel: Put and Size, over this seat's program. -/
import Derived.Test.YtlcaelfkgillmaaEa
import Derived.Laws.IdiomStrings
namespace Go.Proofs.Ytlcaelfkgillmaa
open Go.ChangeShapes Go.WideShapes Go.ChangeAt Go.RowKit
namespace Re
open Ba

/-- bytes as a string -/
def bs (L : List Nat) : ByteArray := ⟨(L.map fun b => UInt8.ofNat b).toArray⟩
def okR (n : Int) : Bool := decide (0 ≤ n) && decide (n ≤ 1099511627776)
theorem okR_iff (n : Int) : okR n = true ↔ 0 ≤ n ∧ n ≤ 1099511627776 := by simp [okR]

set_option maxRecDepth 100000 in
theorem isNumber_any (n : Int) (w : World) :
    Calls Try.prog 35 #[.int .i64 n] w fun r w' => r = .returned (.bool (decide (0 ≤ n) && decide (n ≤ 1099511627776))) ∧ w' = w := by
  by_cases h1 : 0 ≤ n
  · have e : (decide (0 ≤ n) && decide (n ≤ 1099511627776)) = decide (n ≤ 1099511627776) := by simp [h1]
    rw [e]
    clear e
    go_enter Try.func35, Try.ntmps35
    go_wp2
    go_ret
    exact ⟨rfl, rfl⟩
  · have e : (decide (0 ≤ n) && decide (n ≤ 1099511627776)) = false := by simp [h1]
    rw [e]
    clear e
    go_enter Try.func35, Try.ntmps35
    go_wp2
    go_ret
    exact ⟨rfl, rfl⟩
theorem isNumber_is (n : Int) (x : Bool) (h : okR n = x) (w : World) :
    Calls Try.prog 35 #[.int .i64 n] w fun r w' => r = .returned (.bool x) ∧ w' = w := by
  have := isNumber_any n w
  unfold okR at h
  rw [h] at this
  exact this

theorem put_no (n : Int) (h : okR n = false) (w : World) :
    Calls Try.prog 23 #[.int .i64 n] w fun r w' => r = .returned (.tuple #[.string (bs []), .int .i64 1]) ∧ w' = w := by
  have H := hide h
  clear h
  go_enter Try.func23, Try.ntmps23
  go_wp2_with (go_at_call 35; refine (isNumber_is _ false H.out _).mono ?_; rintro r w' ⟨rfl, rfl⟩)
  go_ret2
  exact ⟨rfl, rfl⟩
theorem okR_nat (n : Nat) (h : n ≤ 1099511627776) : okR (n : Int) = true := by rw [okR_iff]; omega

theorem spell_at (n : Nat) (h : n ≤ 1099511627776) (w : World) :
    Calls Try.prog 36 #[.int .i64 (n : Int)] w fun r w' => ∃ a : Nat, r = .returned (.tuple #[.agg (rm (spl n)), .int .i64 (a : Int)]) ∧ a + (spl n).length = 7 ∧ Below w.heap.size w w' := by
  refine (spell_any n h w).mono ?_
  rintro r w' ⟨rfl, hb⟩
  exact ⟨_, rfl, by have := spl_len n; omega, hb⟩
/-- the bytes that a room holds from a on -/
theorem rm_from (L : List Nat) (a k : Nat) (ha : a + L.length = 7) (hk : k < L.length) (hL : ∀ b ∈ L, b < 256) : (rm L)[a + k]? = some (.int .u8 ((UInt8.ofNat L[k]).toNat : Int)) := by
  have e : 7 - L.length = a := by omega
  have hb := hL L[k] (List.getElem_mem hk)
  have e2 : (UInt8.ofNat L[k]).toNat = L[k] := by simp; omega
  rw [e2]
  simp [rm, e, hk]
theorem dg_lt (k n : Nat) : ∀ b ∈ dg k n, b < 256 := by
  induction k with
  | zero => intro b hb; simp [dg] at hb
  | succ k ih =>
    intro b hb
    simp [dg] at hb
    rcases hb with rfl | hb
    · exact Nat.mod_lt _ (by decide)
    · exact ih b hb
theorem spl_lt (n : Nat) : ∀ b ∈ spl n, b < 256 := by
  intro b hb
  by_cases h : n < 240
  · rw [spl_lo n h] at hb; simp at hb; omega
  · rw [spl_hi n (by omega)] at hb
    simp at hb
    have := nb_le n
    rcases hb with rfl | hb
    · omega
    · exact dg_lt _ _ b hb
theorem len_room : Try.prog.arrayLen 83 = 7 := by kernel_rfl
theorem elem_room : Try.prog.elem 83 = 5 := by kernel_rfl
theorem size_byte : (Try.prog.info? 5).map (·.size) = some 1 := by kernel_rfl
theorem sz_byte (w : World) : (sizeOf 5).run Try.prog w = .ok 1 w := by
  have := size_byte
  cases hq : Try.prog.info? 5 with
  | none => rw [hq] at this; simp at this
  | some i =>
    rw [hq] at this
    simp at this
    simp [sizeOf, typeInfo, hq, this]
theorem slice_room (b a : Nat) (ha : a < 7) (w : World) : (Instr.sliceAt 83 (.pointer (some ⟨b, 0, none⟩)) (some (.int .i64 (a : Int))) none none).run Try.prog w = .ok (.slice (some ⟨b, a, none⟩) (7 - a) (7 - a)) w := by
  have ht : Try.prog.underlying 83 = some (.array (Try.prog.arrayLen 83) (Try.prog.elem 83)) := by rw [len_room, elem_room]; exact Try.underlying83
  have := run_sliceAt_array_l (P := Try.prog) w 83 ⟨b, 0, none⟩ ht .i64 (a : Int) (by omega) (by rw [len_room]; omega)
  rw [this, elem_room, sz_byte, len_room]
  have hne : ¬ (7 = a) := by omega
  simp [slicedAt, hne, Addr.add]
  exact fun h => h.symm
theorem conv_room (w : World) (b a : Nat) (L : List Nat) (t : TypeId) (h : w.heap[b]? = some (.cells (rm L) t (0, 0))) (ha : a + L.length = 7) (hL : ∀ b ∈ L, b < 256) :
    (convert 53 9 (.slice (some ⟨b, a, none⟩) (7 - a) (7 - a))).run Try.prog w = .ok (.string (bs L)) w := by
  have := run_convert_bytes_back (P := Try.prog) w 53 9 5 ⟨b, a, none⟩ (7 - a) (L.map fun b => UInt8.ofNat b) Try.underlying53 Try.underlying5 Try.underlying9 (fun j hj => by
    simp at hj
    rw [Addr.add_lit, cell_of h, rm_from L a j ha hj hL]
    simp)
  rw [List.length_map, show L.length = 7 - a by omega] at this
  exact this

set_option maxHeartbeats 800000 in
theorem put_ok (n : Nat) (h : n ≤ 1099511627776) (w : World) :
    Calls Try.prog 23 #[.int .i64 (n : Int)] w fun r w' => r = .returned (.tuple #[.string (bs (spl n)), .int .i64 0]) ∧ Below w.heap.size w w' := by
  have H := hide (okR_nat n h)
  have H1 := hide h
  clear h
  go_enter Try.func23, Try.ntmps23
  go_wp2_with (go_at_call 35; refine (isNumber_is _ true H.out _).mono ?_; rintro r w' ⟨rfl, rfl⟩)
  refine (spell_at n H1.out _).mono ?_
  rintro r w1 ⟨a, rfl, ha, b1⟩
  have H2 := hide (heap_new w1 (.cells (rm []) 83))
  have hsz : (rm (spl n)).size = 7 := rm_size _ (by have := spl_len n; omega)
  have SZ : Hid ((Try.prog.info? 83).map (·.size) = some (rm (spl n)).size) := by show _ = _; rw [size_room, hsz]
  have SE : Hid ((rm []).size = (rm (spl n)).size) := hsz.symm
  have CV : Hid (∀ w, w.heap[w1.heap.size]? = some (.cells (rm (spl n)) 83 (0, 0)) → (convert 53 9 (.slice (some ⟨w1.heap.size, a, none⟩) (7 - a) (7 - a))).run Try.prog w = .ok (.string (bs (spl n))) w) := fun w hw => conv_room w _ a _ _ hw ha (spl_lt n)
  have h6 : a < 7 := by have := spl_len n; omega
  have HB := hide b1
  clear hsz ha b1
  have RN := hide (setRow_new w1 (rm []) (rm (spl n)) 83)
  have sr := slice_room w1.heap.size a h6
  have cv := CV.out _ (setRow_heap _ _ _ (rm (spl n)) _ _ H2.out)
  rw [← rm_nil] at cv
  go_wp2_with (refine wpList_store_row rfl 83 _ _ rfl _ _ rfl rfl 83 _ H2.out SZ.out SE.out (rm_one _) ?_)
  go_ret2
  exact ⟨rfl, btr HB.out (by rw [setRow_new]; exact below_alloc _ _)⟩

theorem size_no (n : Int) (h : okR n = false) (w : World) :
    Calls Try.prog 42 #[.int .i64 n] w fun r w' => r = .returned (.int .i64 0) ∧ w' = w := by
  have H := hide h
  clear h
  go_enter Try.func42, Try.ntmps42
  go_wp2_with (go_at_call 35; refine (isNumber_is _ false H.out _).mono ?_; rintro r w' ⟨rfl, rfl⟩)
  go_ret
  exact ⟨rfl, rfl⟩

set_option maxHeartbeats 800000 in
theorem size_ok (n : Nat) (h : n ≤ 1099511627776) (w : World) :
    Calls Try.prog 42 #[.int .i64 (n : Int)] w fun r w' => r = .returned (.int .i64 ((spl n).length : Int)) ∧ Below w.heap.size w w' := by
  have H := hide (okR_nat n h)
  have H1 := hide h
  clear h
  go_enter Try.func42, Try.ntmps42
  go_wp2_with (go_at_call 35; refine (isNumber_is _ true H.out _).mono ?_; rintro r w' ⟨rfl, rfl⟩)
  refine (spell_at n H1.out _).mono ?_
  rintro r w1 ⟨a, rfl, ha, b1⟩
  have H2 := hide (heap_new w1 (.cells (rm []) 83))
  have hsz : (rm (spl n)).size = 7 := rm_size _ (by have := spl_len n; omega)
  have SZ : Hid ((Try.prog.info? 83).map (·.size) = some (rm (spl n)).size) := by show _ = _; rw [size_room, hsz]
  have SE : Hid ((rm []).size = (rm (spl n)).size) := hsz.symm
  have HA := hide ha
  have h6 : a < 7 := by have := spl_len n; omega
  have HB := hide b1
  clear hsz ha b1
  go_wp2_with (refine wpList_store_row rfl 83 _ _ rfl _ _ rfl rfl 83 _ H2.out SZ.out SE.out (rm_one _) ?_)
  go_ret
  exact ⟨ret_int (by have := HA.out; omega), btr HB.out (by rw [setRow_new]; exact below_alloc _ _)⟩
end Re
end Go.Proofs.Ytlcaelfkgillmaa
