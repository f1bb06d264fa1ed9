/- The reference's All, over this seat's program. -/
import Derived.Test.YtlcaelfkgillmaaOd
import Derived.Test.YtlcaelfkgillmaaOa
namespace Go.Proofs.Ytlcaelfkgillmaa
open Go.ChangeShapes Go.WideShapes Go.ChangeAt Go.RowKit
namespace En
open Ba Re

theorem rall_long (oa : Option Addr) (n c : Nat) (w : World) (hn : n ≤ maxLen) (h : 2000 < n) :
    Calls Try.prog 17 #[.slice oa n c] w fun r w' => r = .returned (.tuple #[.string (bs []), .int .i64 2]) ∧ Below w.heap.size w w' := by
  unfold maxLen at hn
  have h' : (2000 : Int) < (n : Int) := by omega
  go_enter Try.func17, Try.ntmps17
  go_wp2_with fail
  go_ret2
  exact ⟨rfl, Below.refl _ _⟩
set_option maxRecDepth 100000 in
set_option maxHeartbeats 3200000 in
theorem rall_any (oa : Option Addr) (l : List Ev) (c : Nat) (w : World) (hA : EsAt w oa l) (hl : l.length ≤ 2000) (x : Int) (L : List Nat) (hx : fe l = x) (hL : (if x = 0 then encs l else []) = L) :
    Calls Try.prog 17 #[.slice oa l.length c] w fun r w' => r = .returned (.tuple #[.string (bs L), .int .i64 x]) ∧ Below w.heap.size w w' := by
  have HA := hide hA
  have HX := hide hx
  have HL := hide hL
  clear hA hx hL
  have B0 := hide (Below.refl w.heap.size w)
  have hlI : ¬ ((2000 : Int) < (l.length : Int)) := by omega
  go_enter Try.func17, Try.ntmps17
  go_wp2_with fail
  go_loopw [4, 14] (fun ov i wr => ∃ k : Nat, k ≤ l.length ∧ ov = .string (bs (encs (l.take k))) ∧ i = .int .i64 k ∧ fe (l.take k) = 0 ∧ Below w.heap.size w wr) (fun _ i _ => l.length - (intOf i).toNat)
  case atStart => exact ⟨0, Nat.zero_le _, rfl, rfl, rfl, B0.out⟩
  case round =>
    clear B0
    obtain ⟨k, hk, rfl, rfl, hf, b1⟩ := hrel
    have HF := hide hf
    have B1 := hide b1
    clear hf b1
    by_cases hlt : k < l.length
    · have hlt' : (k : Int) < (l.length : Int) := by omega
      obtain ⟨x0, hx0⟩ : ∃ x0, l[k]? = some x0 := ⟨_, List.getElem?_eq_getElem hlt⟩
      obtain ⟨bb, off, rfl, _⟩ := HA.out k x0 hx0
      obtain ⟨q0, q1, q2, q3, q4, q5, q6, q7⟩ := (HA.out.below B1.out).read hx0
      have HX0 := hide hx0
      clear hx0
      have ENA := hide fun u (h : chk x0 = 0) => rencode_ok x0 u h
      have NOA := hide fun u (h : (chk x0 != 0) = true) => rencode_no x0 u _ rfl h
      have B2 := hide (btr B1.out (below_alloc wr (.cells #[.int .i64 x0.k, .int .i64 x0.g, .int .i64 x0.c, .int .i64 x0.a, .int .i64 x0.v, .int .i64 x0.m, .bool x0.s, .bool x0.o] 23)))
      unfold evv evc at ENA NOA
      have hlen := encs_len (l.take k)
      rw [List.length_take] at hlen
      have henc := enc_len x0
      cases hc : (chk x0 != 0)
      · have hc0 : chk x0 = 0 := by simpa using hc
        have EN := hide fun u => ENA.out u hc0
        have F2 := hide (fe_ok HF.out HX0.out hc0)
        obtain ⟨M1, HM1⟩ : ∃ M, Hid (M = encs (l.take (k + 1))) := ⟨_, rfl⟩
        have A1 : ∀ u, (Op.stringOp .add (bs (encs (l.take k))) (bs (enc x0))).run Try.prog u = .ok (.string (bs M1)) u := fun u => by
          rw [HM1.out, encs_take HX0.out]
          exact add_bs _ _ u (by omega)
        clear ENA NOA hc hc0 hlen henc
        generalize encs (l.take k) = K0 at A1 ⊢
        generalize enc x0 = E0 at A1 EN
        go_wp2_with fail
        refine (EN.out _).mono ?_
        rintro r w3 ⟨rfl, b3⟩
        have B3 := hide (btr B2.out b3)
        clear b3
        go_wp2_with fail
        go_roundw
        case rel => exact ⟨k + 1, by omega, by rw [HM1.out], by go_num, F2.out, B3.out⟩
        case measure => simp [intOf]; omega
      · have hc0 : chk x0 ≠ 0 := by simpa using hc
        have EN := hide fun u => NOA.out u hc
        have F2 := hide (fe_bad HF.out HX0.out hc0)
        have hx2 : chk x0 = x := F2.out.symm.trans HX.out
        rw [hx2] at EN hc hc0
        have HL2 : Hid (L = []) := by show _ = _; rw [← HL.out, if_neg hc0]
        obtain rfl := HL2.out
        clear ENA NOA hc0 F2 hx2
        generalize encs (l.take k) = K0
        go_wp2_with fail
        refine (EN.out _).mono ?_
        rintro r w3 ⟨rfl, b3⟩
        have B3 := hide (btr B2.out b3)
        clear b3
        go_wp2_with fail
        go_ret2
        exact ⟨rfl, B3.out⟩
    · have hlt' : ¬ ((k : Int) < (l.length : Int)) := by omega
      have hk2 : k = l.length := by omega
      have TK : Hid (l.take k = l) := List.take_of_length_le (by omega)
      rw [TK.out] at HF ⊢
      have hx0 : x = 0 := HX.out.symm.trans HF.out
      have hL2 : L = encs l := by rw [← HL.out, if_pos hx0]
      clear HL HX
      subst hx0 hL2
      go_wp2_with fail
      go_ret2
      exact ⟨rfl, B1.out⟩
end En
end Go.Proofs.Ytlcaelfkgillmaa
