/- The reference's Put, over this seat's program. -/
import Derived.Test.YtlcaelfkgillmaaEb
namespace Go.Proofs.Ytlcaelfkgillmaa
open Go.ChangeShapes Go.WideShapes Go.ChangeAt Go.RowKit
namespace Re
open Ba

set_option maxRecDepth 100000 in
set_option maxHeartbeats 800000 in
theorem rput_no (n : Int) (h : okR n = false) (w : World) :
    Calls Try.prog 38 #[.int .i64 n] w fun r w' => r = .returned (.tuple #[.string (bs []), .int .i64 1]) ∧ w' = w := by
  have h' : n < 0 ∨ 1099511627776 < n := by
    have : ¬ (okR n = true) := by rw [h]; simp
    rw [okR_iff] at this; omega
  clear h
  by_cases h0 : n < 0
  · clear h'
    go_enter Try.func38, Try.ntmps38
    go_wp2
    go_ret2
    exact ⟨rfl, rfl⟩
  · have h3 : 1099511627776 < n := by omega
    clear h'
    go_enter Try.func38, Try.ntmps38
    go_wp2
    go_ret2
    exact ⟨rfl, rfl⟩

theorem bs_cons (x : Nat) (L : List Nat) : bs [x] ++ bs L = bs (x :: L) := by
  unfold bs
  rw [ByteArray.mk_append_mk]
  simp
theorem bs_append (K L : List Nat) : bs K ++ bs L = bs (K ++ L) := by
  unfold bs
  rw [ByteArray.mk_append_mk]
  simp
theorem bs_size (L : List Nat) : (bs L).size = L.length := by
  show (List.toArray _).size = _
  simp
theorem conv_one (w : World) (x : Nat) (hx : x < 256) (v : Int) (hv : v = (x : Int)) :
    (convert 53 9 (.slice (some ⟨w.heap.size, 0, none⟩) 1 1)).run Try.prog (w.alloc (.cells #[.int .u8 v] 5)) = .ok (.string (bs [x])) (w.alloc (.cells #[.int .u8 v] 5)) := by
  subst hv
  have := run_convert_bytes_back (P := Try.prog) (w.alloc (.cells #[.int .u8 (x : Int)] 5)) 53 9 5 ⟨w.heap.size, 0, none⟩ 1 [UInt8.ofNat x] Try.underlying53 Try.underlying5 Try.underlying9 (fun j hj => by
    have e : j = 0 := by simp at hj; omega
    subst e
    have e2 : (UInt8.ofNat x).toNat = x := by simp; omega
    rw [Addr.add_lit, cell_of (heap_new _ _)]
    simp [e2])
  simpa [bs] using this
theorem add_str (a b : ByteArray) (w : World) (h : a.size + b.size ≤ 9223372036854775807) : (Op.stringOp .add a b).run Try.prog w = .ok (.string (a ++ b)) w := by
  exact run_string_add_sum w a b h

set_option maxRecDepth 100000 in
set_option maxHeartbeats 1600000 in
theorem rput_lo (n : Nat) (h2 : n < 240) (w : World) :
    Calls Try.prog 38 #[.int .i64 (n : Int)] w fun r w' => r = .returned (.tuple #[.string (bs [n]), .int .i64 0]) ∧ Below w.heap.size w w' := by
  have d1 : decide ((n : Int) < 0) = false := by simp
  have d2 : decide ((1099511627776 : Int) < (n : Int)) = false := by simp; omega
  have d3 : decide ((n : Int) < 240) = true := by simp; omega
  have cv := conv_one w n (by omega) (n : Int) rfl
  go_enter Try.func38, Try.ntmps38
  go_wp2_with fail
  go_ret2
  exact ⟨rfl, below_alloc _ _⟩

set_option maxRecDepth 100000 in
set_option maxHeartbeats 1600000 in
theorem rput_hi (n : Nat) (h : n ≤ 1099511627776) (h2 : 240 ≤ n) (w : World) :
    Calls Try.prog 38 #[.int .i64 (n : Int)] w fun r w' => r = .returned (.tuple #[.string (bs (spl n)), .int .i64 0]) ∧ Below w.heap.size w w' := by
  have d1 : decide ((n : Int) < 0) = false := by simp
  have d2 : decide ((1099511627776 : Int) < (n : Int)) = false := by simp; omega
  have d3 : decide ((n : Int) < 240) = false := by simp; omega
  go_enter Try.func38, Try.ntmps38
  go_wp2_with fail
  go_loopw [4, 5, 6] (fun s k m wr => ∃ j q : Nat, s = .string (bs (dg j n)) ∧ k = .int .i64 (j : Int) ∧ m = .int .i64 (q : Int) ∧ q = n / 256 ^ j ∧ j ≤ 6 ∧ (j = 0 ∨ 256 ^ (j - 1) ≤ n) ∧ Below w.heap.size w wr) (fun _ _ m _ => (intOf m).toNat)
  case atStart => exact ⟨0, n, rfl, rfl, rfl, by simp, by decide, .inl rfl, Below.refl _ _⟩
  case round =>
    obtain ⟨j, q, rfl, rfl, rfl, hq, hj, hge, hb⟩ := hrel
    have HQ := hide hq
    have HG := hide hge
    have HB := hide hb
    clear hq hge hb
    by_cases hz : 0 < q
    · have hz' : decide (0 < (q : Int)) = true := by simp; omega
      have hql : q ≤ 1099511627776 := by rw [HQ.out]; exact Nat.le_trans (Nat.div_le_self _ _) h
      have hge2 : 256 ^ j ≤ n := by
        have := (Nat.le_div_iff_mul_le (Nat.pow_pos (by decide : 0 < 256))).1 (HQ.out ▸ hz : 1 ≤ n / 256 ^ j)
        omega
      have hj5 : j ≤ 5 := by
        by_cases q5 : j ≤ 5
        · exact q5
        · exfalso
          have : 256 ^ 6 ≤ 256 ^ j := Nat.pow_le_pow_right (by decide) (by omega)
          rw [show 256 ^ 6 = 281474976710656 from rfl] at this
          omega
      have HG2 := hide hge2
      have cv := conv_one wr (q % 256) (Nat.mod_lt _ (by decide)) ((q : Int) % 256) (by omega)
      have ad : ∀ w, (Op.stringOp .add (bs [q % 256]) (bs (dg j n))).run Try.prog w = .ok (.string (bs (dg (j + 1) n))) w := fun w => by
        rw [add_str _ _ w (by rw [bs_size, bs_size, dg_length]; simp; omega), bs_cons, HQ.out]
        rfl
      clear hge2
      go_wp2_with fail
      go_roundw
      case rel => exact ⟨j + 1, q / 256, rfl, by go_num, by go_num, by rw [HQ.out, Nat.div_div_eq_div_mul, Nat.pow_succ], by omega, .inr HG2.out, btr HB.out (below_alloc _ _)⟩
      case measure => simp [intOf]; omega
    · have hz' : decide (0 < (q : Int)) = false := by simp; omega
      have hlt : n < 256 ^ j := by
        have q0 : n / 256 ^ j = 0 := by rw [← HQ.out]; omega
        rcases Nat.lt_or_ge n (256 ^ j) with r | r
        · exact r
        · have := Nat.div_pos r (Nat.pow_pos (by decide : 0 < 256)); omega
      have j1 : 1 ≤ j := by
        by_cases e : j = 0
        · subst e; simp at hlt; omega
        · omega
      have en : nb n = j := by
        have := nb_is n (j - 1) (by omega) (by
          rcases HG.out with e | e
          · omega
          · exact .inr e) (by rw [show j - 1 + 1 = j by omega]; exact hlt)
        omega
      have EN := hide en
      have cv := conv_one wr (240 + j) (by omega) (240 + (j : Int)) (by omega)
      have ad : ∀ w, (Op.stringOp .add (bs [240 + j]) (bs (dg j n))).run Try.prog w = .ok (.string (bs (spl n))) w := fun w => by
        rw [add_str _ _ w (by rw [bs_size, bs_size, dg_length]; simp; omega), bs_cons, spl_hi n h2, en]
      clear hlt en
      go_wp2_with fail
      go_ret2
      exact ⟨rfl, btr HB.out (below_alloc _ _)⟩

theorem rput_ok (n : Nat) (h : n ≤ 1099511627776) (w : World) :
    Calls Try.prog 38 #[.int .i64 (n : Int)] w fun r w' => r = .returned (.tuple #[.string (bs (spl n)), .int .i64 0]) ∧ Below w.heap.size w w' := by
  by_cases h2 : n < 240
  · rw [spl_lo n h2]
    exact rput_lo n h2 w
  · exact rput_hi n h (by omega) w
end Re
end Go.Proofs.Ytlcaelfkgillmaa
