/- The reference's PutList, over this seat's program. -/
import Derived.Test.YtgnhophlnbpcgaaEh
namespace Go.Proofs.Ytgnhophlnbpcgaa
open Go.ChangeShapes Go.WideShapes Go.ChangeAt Go.RowKit
namespace Re
open Ba

theorem okR_no {n : Nat} (h : ¬ n ≤ 1099511627776) : okR (n : Int) = false := by
  have : ¬ (okR (n : Int) = true) := by rw [okR_iff]; omega
  simpa using this

set_option maxRecDepth 100000 in
set_option maxHeartbeats 1600000 in
theorem rputlist_any (oa : Option Addr) (l : List Int) (c : Nat) (w : World) (hA : At w oa l) (hl : l.length ≤ 2000) :
    Calls Try.prog 41 #[.slice oa l.length c] w fun r w' => r = .returned (bif l.all okR then .tuple #[.string (bs (plist l)), .int .i64 0] else .tuple #[.string (bs []), .int .i64 1]) ∧ Below w.heap.size w w' := by
  have HA := hide hA
  clear hA
  go_enter Try.func41, Try.ntmps41
  go_wp2_with fail
  refine (rput_ok l.length (by omega) _).mono ?_
  rintro r w1 ⟨rfl, b1⟩
  have B1 := hide b1
  clear b1
  go_wp2_with fail
  go_loopw [4, 18] (fun o i wr => ∃ k : Nat, k ≤ l.length ∧ i = .int .i64 (k : Int) ∧ (∀ j, j < k → okR (nth l j) = true) ∧ o = .string (bs (ppre l k)) ∧ Below w.heap.size w wr) (fun _ i _ => l.length - (intOf i).toNat)
  case atStart => exact ⟨0, Nat.zero_le _, rfl, fun j hj => absurd hj (Nat.not_lt_zero _), by simp [ppre, pls], B1.out⟩
  case round =>
    clear B1
    obtain ⟨k, hk, rfl, hall, rfl, hbl⟩ := hrel
    have HK := hide hall
    have BL := hide hbl
    clear hall hbl
    by_cases hlt : k < l.length
    · have hlt' : decide ((k : Int) < (l.length : Int)) = true := by simp; omega
      obtain ⟨b', off, rfl, hc⟩ := (HA.out.below BL.out) k hlt
      cases hok : okR (nth l k)
      · have HO := hide hok
        clear hok
        go_wp2_with fail
        refine (rput_no _ HO.out _).mono ?_
        rintro r w2 ⟨rfl, hw⟩
        subst hw
        go_wp2_with fail
        go_ret2
        exact ⟨by rw [all_not k hlt HO.out]; rfl, BL.out⟩
      · have HO := hide hok
        obtain ⟨h0, h1⟩ := (okR_iff _).1 hok
        obtain ⟨m, hm⟩ := Int.eq_ofNat_of_zero_le h0
        have PS := ppre_succ l k hlt
        rw [hm] at hc h1 HO
        have hm1 : m ≤ 1099511627776 := by omega
        rw [hm, Int.toNat_natCast] at PS
        have HM := hide hm
        have ad : ∀ w, (Op.stringOp .add (bs (ppre l k)) (bs (spl m))).run Try.prog w = .ok (.string (bs (ppre l (k + 1)))) w := fun w => by
          have h2 := ppre_len l k (by omega)
          have h3 := spl_len m
          rw [add_str _ _ w (by rw [bs_size, bs_size]; omega), bs_append, PS]
        clear hok h0 h1 hm PS
        go_wp2_with fail
        refine (rput_ok m hm1 _).mono ?_
        rintro r w2 ⟨rfl, b2⟩
        have B2 := hide (btr BL.out b2)
        clear b2
        go_wp2_with fail
        go_roundw
        case rel => exact ⟨k + 1, by omega, by go_num, fun j hj => by
            by_cases e : j = k
            · subst e; rw [HM.out]; exact HO.out
            · exact HK.out j (by omega), rfl, B2.out⟩
        case measure => simp [intOf]; omega
    · have hlt' : decide ((k : Int) < (l.length : Int)) = false := by simp; omega
      have e : k = l.length := by omega
      subst e
      rw [ppre_all]
      go_wp2_with fail
      go_ret2
      exact ⟨by rw [all_ok HK.out]; rfl, BL.out⟩
end Re
end Go.Proofs.Ytgnhophlnbpcgaa
