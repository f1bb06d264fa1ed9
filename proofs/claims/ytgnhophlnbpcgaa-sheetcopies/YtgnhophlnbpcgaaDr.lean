/- The reference's Encode, over this seat's program. -/
import Derived.Test.YtgnhophlnbpcgaaDq
namespace Go.Proofs.Ytgnhophlnbpcgaa
open Go.ChangeShapes Go.WideShapes Go.ChangeAt Go.RowKit
namespace De
open Ba Re

set_option maxHeartbeats 800000 in
theorem rencode_no (o : OpD) (oa : Option Addr) (c : Nat) (p : Int) (w : World) (hA : CAt w oa o.cases) (hm : o.cases.length ≤ maxLen) (h : (chk o p == 0) = false) :
    Calls Try.prog 40 #[.agg #[.int .i64 o.kind, .int .i64 o.a, .int .i64 o.b, .slice oa o.cases.length c, .bool o.def_], .int .i64 p] w fun r w' => r = .returned (.tuple #[.string (bs []), .int .i64 (chk o p)]) ∧ Below w.heap.size w w' := by
  have HA := hide (hA.below (below_alloc w (.cells #[.int .i64 o.kind, .int .i64 o.a, .int .i64 o.b, .slice oa o.cases.length c, .bool o.def_] 24)))
  have h2 : (chk o p != 0) = true := by simp [bne, h]
  have HM := hide hm
  clear hA hm
  go_enter Try.func40, Try.ntmps40
  go_wp2_with fail
  refine (rcheck_any o _ _ p _ HA.out HM.out).mono ?_
  rintro r w1 ⟨rfl, b1⟩
  have B1 := hide (btr (below_alloc _ _) b1)
  clear b1
  go_wp2_with fail
  go_ret2
  exact ⟨rfl, B1.out⟩

set_option maxRecDepth 100000 in
set_option maxHeartbeats 1600000 in
theorem rencode_ok (o : OpD) (oa : Option Addr) (c : Nat) (p : Int) (w : World) (hA : CAt w oa o.cases) (hl : o.cases.length ≤ 4) (h : chk o p = 0) (hn : ∀ n ∈ nums o, okR n = true) :
    Calls Try.prog 40 #[.agg #[.int .i64 o.kind, .int .i64 o.a, .int .i64 o.b, .slice oa o.cases.length c, .bool o.def_], .int .i64 p] w fun r w' => r = .returned (.tuple #[.string (bs (pls (nums o))), .int .i64 0]) ∧ Below w.heap.size w w' := by
  have HA := hide (hA.below (below_alloc w (.cells #[.int .i64 o.kind, .int .i64 o.a, .int .i64 o.b, .slice oa o.cases.length c, .bool o.def_] 24)))
  have H := hide h
  have HM : Hid (o.cases.length ≤ maxLen) := by show _ ≤ _; unfold maxLen; omega
  have HN := hide hn
  have HK := hide (chk_zero h).2.1
  clear hA h hn
  go_enter Try.func40, Try.ntmps40
  go_wp2_with fail
  refine (rcheck_any o _ _ p _ HA.out HM.out).mono ?_
  rw [H.out]
  rintro r w1 ⟨rfl, b1⟩
  have B1 := hide (btr (below_alloc _ _) b1)
  have HA1 := hide (HA.out.below b1)
  have oc := heap_below (heap_new w (.cells #[.int .i64 o.kind, .int .i64 o.a, .int .i64 o.b, .slice oa o.cases.length c, .bool o.def_] 24)) b1
  have o0 := cell_of oc 0
  have o1 := cell_of oc 1
  have o2 := cell_of oc 2
  have o3 := cell_of oc 3
  have o4 := cell_of oc 4
  simp at o0 o1 o2 o3 o4
  clear b1 oc
  go_wp2_with fail
  refine (rnums_any o _ _ _ HA1.out hl HK.out.1 HK.out.2).mono ?_
  rintro r w2 ⟨⟨oa2, c2, rfl, hat⟩, b2⟩
  have A2 := hide hat
  have B2 := hide (btr B1.out b2)
  generalize hNN : nums o = NN at HN A2 ⊢
  have HNN := hide hNN
  have NL : NN.length ≤ 100 := by rw [← hNN]; exact nums_len o hl
  clear b2 hat hNN
  go_wp2_with fail
  go_loopw [7, 21] (fun t i wr => ∃ k : Nat, k ≤ NN.length ∧ i = .int .i64 (k : Int) ∧ t = .string (bs (pls (NN.take k))) ∧ Below w2.heap.size w2 wr) (fun _ i _ => NN.length - (intOf i).toNat)
  case atStart => exact ⟨0, Nat.zero_le _, rfl, rfl, Below.refl _ _⟩
  case round =>
    obtain ⟨k, hk, rfl, rfl, hb⟩ := hrel
    have HB := hide hb
    have A3 := hide (A2.out.below hb)
    clear hb
    by_cases hlt : k < NN.length
    · have hlt' : decide ((k : Int) < (NN.length : Int)) = true := by simp; omega
      obtain ⟨b', off, rfl, hc⟩ := A3.out k hlt
      have hok := HN.out (nth NN k) (by rw [nth_lt NN k hlt]; exact List.getElem_mem hlt)
      obtain ⟨h0, h1⟩ := (okR_iff _).1 hok
      obtain ⟨m, hm⟩ := Int.eq_ofNat_of_zero_le h0
      have PS := pls_take NN k hlt
      rw [hm] at hc h1 PS
      rw [Int.toNat_natCast] at PS
      have ad : ∀ w, (Op.stringOp .add (bs (pls (NN.take k))) (bs (spl m))).run Try.prog w = .ok (.string (bs (pls (NN.take (k + 1))))) w := fun w => by
        have h2 := pls_len (NN.take k)
        have h3 := spl_len m
        rw [List.length_take] at h2
        rw [add_str _ _ w (by rw [bs_size, bs_size]; omega), bs_append, PS]
      clear hok h0 PS hm
      go_wp2_with fail
      refine (rput_ok m (by omega) _).mono ?_
      rintro r w3 ⟨rfl, b3⟩
      have B3 := hide (btr HB.out b3)
      clear b3
      go_wp2_with fail
      go_roundw
      case rel => exact ⟨k + 1, by omega, by go_num, rfl, B3.out⟩
      case measure => simp [intOf]; omega
    · have hlt' : decide ((k : Int) < (NN.length : Int)) = false := by simp; omega
      have e : k = NN.length := by omega
      subst e
      rw [List.take_length]
      go_wp2_with fail
      go_ret2
      exact ⟨by rw [HNN.out]; rfl, btr B2.out HB.out⟩

end De
end Go.Proofs.Ytgnhophlnbpcgaa
