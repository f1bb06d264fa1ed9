/- Package deed: Encode, over this seat's program. -/
import Derived.Test.YtgnhophlnbpcgaaDc
namespace Go.Proofs.Ytgnhophlnbpcgaa
open Go.ChangeShapes Go.WideShapes Go.ChangeAt Go.RowKit
namespace De
open Ba Re

/-- the bytes of numbers, one behind the other -/
def pls (l : List Int) : List Nat := l.flatMap fun n => spl n.toNat
theorem pls_take (l : List Int) (k : Nat) (h : k < l.length) : pls (l.take (k + 1)) = pls (l.take k) ++ spl (nth l k).toNat := by
  rw [pls, List.take_add_one, List.getElem?_eq_getElem h, nth_lt l k h, List.flatMap_append]
  show _ ++ (spl _ ++ []) = _
  rw [List.append_nil]
  rfl
theorem pls_len (l : List Int) : (pls l).length ≤ 7 * l.length := by
  induction l with
  | nil => simp [pls]
  | cons n l ih =>
    have := (spl_len n.toNat).2
    simp [pls] at ih ⊢
    omega

theorem nums_len (o : OpD) (hl : o.cases.length ≤ 4) : (nums o).length ≤ 100 := by
  have h1 := flat_len o.cases o.cases.length
  rw [List.take_length] at h1
  unfold nums
  rw [List.length_append, List.length_cons, List.length_take]
  cases o.kind == 6
  · simp only [cond_false, List.length_nil, List.length_cons]
    omega
  · simp only [cond_true, List.length_nil, List.length_cons]
    omega

set_option maxHeartbeats 800000 in
theorem encode_no (o : OpD) (oa : Option Addr) (c : Nat) (p : Int) (w : World) (hA : CAt w oa o.cases) (hm : o.cases.length ≤ maxLen) (h : (chk o p == 0) = false) :
    Calls Try.prog 32 #[.agg #[.int .i64 o.kind, .int .i64 o.a, .int .i64 o.b, .slice oa o.cases.length c, .bool o.def_], .int .i64 p] w fun r w' => r = .returned (.tuple #[.string (bs []), .int .i64 (chk o p)]) ∧ Below w.heap.size w w' := by
  have HA := hide (hA.below (below_alloc w (.cells #[.int .i64 o.kind, .int .i64 o.a, .int .i64 o.b, .slice oa o.cases.length c, .bool o.def_] 24)))
  have h2 : (chk o p != 0) = true := by simp [bne, h]
  have HM := hide hm
  clear hA hm
  go_enter Try.func32, Try.ntmps32
  go_wp2_with fail
  refine (check_any o _ _ p _ HA.out HM.out).mono ?_
  rintro r w1 ⟨rfl, b1⟩
  have B1 := hide (btr (below_alloc _ _) b1)
  clear b1
  go_wp2_with fail
  go_ret2
  exact ⟨rfl, B1.out⟩

set_option maxRecDepth 100000 in
set_option maxHeartbeats 1600000 in
theorem encode_ok (o : OpD) (oa : Option Addr) (c : Nat) (p : Int) (w : World) (hA : CAt w oa o.cases) (hl : o.cases.length ≤ 4) (h : chk o p = 0) (hn : ∀ n ∈ nums o, okR n = true) :
    Calls Try.prog 32 #[.agg #[.int .i64 o.kind, .int .i64 o.a, .int .i64 o.b, .slice oa o.cases.length c, .bool o.def_], .int .i64 p] w fun r w' => r = .returned (.tuple #[.string (bs (pls (nums o))), .int .i64 0]) ∧ Below w.heap.size w w' := by
  have HA := hide (hA.below (below_alloc w (.cells #[.int .i64 o.kind, .int .i64 o.a, .int .i64 o.b, .slice oa o.cases.length c, .bool o.def_] 24)))
  have H := hide h
  have HM : Hid (o.cases.length ≤ maxLen) := by show _ ≤ _; unfold maxLen; omega
  have HN := hide hn
  clear hA h hn
  go_enter Try.func32, Try.ntmps32
  go_wp2_with fail
  refine (check_any o _ _ p _ HA.out HM.out).mono ?_
  rw [H.out]
  rintro r w1 ⟨rfl, b1⟩
  have B1 := hide (btr (below_alloc _ _) b1)
  have HA1 := hide (HA.out.below b1)
  have oc := heap_below (heap_new w (.cells #[.int .i64 o.kind, .int .i64 o.a, .int .i64 o.b, .slice oa o.cases.length c, .bool o.def_] 24)) b1
  have o0 := cell_of oc 0
  have o1 := cell_of oc 1
  have o2 := cell_of oc 2
  have o3 := cell_of oc 3
  have o4 := cell_of oc 4
  simp at o0 o1 o2 o3 o4
  clear b1 oc
  go_wp2_with fail
  refine (numbers_any o _ _ _ HA1.out hl).mono ?_
  rintro r w2 ⟨⟨oa2, c2, rfl, hat⟩, b2⟩
  have A2 := hide hat
  have B2 := hide (btr B1.out b2)
  generalize hNN : nums o = NN at HN A2 ⊢
  have HNN := hide hNN
  have NL : NN.length ≤ 100 := by rw [← hNN]; exact nums_len o hl
  clear b2 hat hNN
  go_wp2_with fail
  go_loopw [7, 21] (fun t i wr => ∃ k : Nat, k ≤ NN.length ∧ i = .int .i64 (k : Int) ∧ t = .string (bs (pls (NN.take k))) ∧ Below w2.heap.size w2 wr) (fun _ i _ => NN.length - (intOf i).toNat)
  case atStart => exact ⟨0, Nat.zero_le _, rfl, rfl, Below.refl _ _⟩
  case round =>
    obtain ⟨k, hk, rfl, rfl, hb⟩ := hrel
    have HB := hide hb
    have A3 := hide (A2.out.below hb)
    clear hb
    by_cases hlt : k < NN.length
    · have hlt' : decide ((k : Int) < (NN.length : Int)) = true := by simp; omega
      obtain ⟨b', off, rfl, hc⟩ := A3.out k hlt
      have hok := HN.out (nth NN k) (by rw [nth_lt NN k hlt]; exact List.getElem_mem hlt)
      obtain ⟨h0, h1⟩ := (okR_iff _).1 hok
      obtain ⟨m, hm⟩ := Int.eq_ofNat_of_zero_le h0
      have PS := pls_take NN k hlt
      rw [hm] at hc h1 PS
      rw [Int.toNat_natCast] at PS
      have ad : ∀ w, (Op.stringOp .add (bs (pls (NN.take k))) (bs (spl m))).run Try.prog w = .ok (.string (bs (pls (NN.take (k + 1))))) w := fun w => by
        have h2 := pls_len (NN.take k)
        have h3 := spl_len m
        rw [List.length_take] at h2
        rw [add_str _ _ w (by rw [bs_size, bs_size]; omega), bs_append, PS]
      clear hok h0 PS hm
      go_wp2_with fail
      refine (put_ok m (by omega) _).mono ?_
      rintro r w3 ⟨rfl, b3⟩
      have B3 := hide (btr HB.out b3)
      clear b3
      go_wp2_with fail
      go_roundw
      case rel => exact ⟨k + 1, by omega, by go_num, rfl, B3.out⟩
      case measure => simp [intOf]; omega
    · have hlt' : decide ((k : Int) < (NN.length : Int)) = false := by simp; omega
      have e : k = NN.length := by omega
      subst e
      rw [List.take_length]
      go_wp2_with fail
      go_ret2
      exact ⟨by rw [HNN.out]; rfl, btr B2.out HB.out⟩

theorem upB_iff (n m : Int) : upB n m = true ↔ 0 ≤ n ∧ n ≤ m := by simp [upB]
theorem mA_le (k p : Int) (hp : p ≤ 8) : mA k p ≤ 7 := by
  unfold mA
  repeat' split
  all_goals omega
theorem mB_le (k : Int) : mB k ≤ 99 := by
  unfold mB
  repeat' split
  all_goals omega
/-- what a right operation is -/
theorem chk_zero {o : OpD} {p : Int} (h : chk o p = 0) : (1 ≤ p ∧ p ≤ 8) ∧ (1 ≤ o.kind ∧ o.kind ≤ 9) ∧ o.cases.length ≤ 4 ∧ (0 ≤ o.a ∧ o.a ≤ mA o.kind p) ∧ (0 ≤ o.b ∧ o.b ≤ mB o.kind) ∧ (o.kind = 6 ∨ (o.def_ = false ∧ o.cases = [])) ∧ (∀ x ∈ o.cases, okC x = true) := by
  unfold chk at h
  by_cases h1 : (okP p && (decide (1 ≤ o.kind) && decide (o.kind ≤ 9))) = false
  · rw [if_pos h1] at h; omega
  · rw [if_neg h1] at h
    by_cases h2 : 4 < o.cases.length
    · rw [if_pos h2] at h; omega
    · rw [if_neg h2] at h
      by_cases h3 : (upB o.a (mA o.kind p) && upB o.b (mB o.kind)) = false
      · rw [if_pos h3] at h; omega
      · rw [if_neg h3] at h
        by_cases h4 : o.kind ≠ 6 ∧ (o.def_ || decide (0 < o.cases.length)) = true
        · rw [if_pos h4] at h; omega
        · rw [if_neg h4] at h
          cases h5 : o.cases.all okC
          · rw [h5] at h; simp at h
          · have q1 : okP p = true ∧ 1 ≤ o.kind ∧ o.kind ≤ 9 := by simpa using h1
            have q3 : upB o.a (mA o.kind p) = true ∧ upB o.b (mB o.kind) = true := by simpa using h3
            refine ⟨(okP_iff p).1 q1.1, q1.2, by omega, (upB_iff _ _).1 q3.1, (upB_iff _ _).1 q3.2, ?_, List.all_eq_true.1 h5⟩
            by_cases e : o.kind = 6
            · exact .inl e
            · right
              have : ¬ ((o.def_ || decide (0 < o.cases.length)) = true) := fun q => h4 ⟨e, q⟩
              simpa using this
theorem okC_bd {x : Cs} (h : okC x = true) : (0 ≤ x.ch ∧ x.ch ≤ 7) ∧ 0 ≤ x.val ∧ x.val ≤ 99 := by
  unfold okC at h
  rw [Bool.and_eq_true, upB_iff, upB_iff] at h
  refine ⟨h.1, h.2.1, ?_⟩
  cases hs : x.send
  · rw [hs] at h; have := h.2.2; simp at this; omega
  · rw [hs] at h; exact h.2.2
theorem bt_bd (b : Bool) : 0 ≤ bt b ∧ bt b ≤ 1 := by cases b <;> decide
theorem nums_ok {o : OpD} {p : Int} (h : chk o p = 0) : ∀ n ∈ nums o, okR n = true := by
  obtain ⟨hp, hk, hl, ha, hb, _, hc⟩ := chk_zero h
  have h1 := mA_le o.kind p hp.2
  have h2 := mB_le o.kind
  intro n hn
  rw [okR_iff]
  unfold nums at hn
  rw [List.mem_append, List.mem_cons] at hn
  rcases hn with (rfl | hn) | hn
  · omega
  · have := List.mem_of_mem_take hn
    simp at this
    rcases this with rfl | rfl <;> omega
  · cases h6 : o.kind == 6
    · rw [h6] at hn; simp at hn
    · rw [h6] at hn
      simp only [cond_true, List.mem_cons, List.mem_flatMap] at hn
      rcases hn with rfl | rfl | ⟨x, hx, hn⟩
      · have := bt_bd o.def_; omega
      · omega
      · have q1 := okC_bd (hc x hx)
        have q2 := bt_bd x.send
        simp [cn] at hn
        rcases hn with rfl | rfl | rfl <;> omega
end De
end Go.Proofs.Ytgnhophlnbpcgaa
