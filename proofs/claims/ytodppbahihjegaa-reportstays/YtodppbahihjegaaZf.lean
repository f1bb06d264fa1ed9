/- Layer 19's laws, over this seat's program: the small case that each of them asks. -/
import Derived.Test.YtodppbahihjegaaZe
namespace Go.Proofs.Ytodppbahihjegaa
open Go.ChangeShapes Go.WideShapes Go.ChangeAt Go.RowKit
namespace Rep
open Ck Ce
open Ba (hide KF)
open Ep (tidOf clkOf ownB)

theorem RX.new {Y : Nat → Prop} {X : Nat} {w w' : World} {S : Rst} {mb : Nat} {D : DataW Unit} {xs : Nat → Nat} {vs : Nat → Value} (s : RX Y X w S mb D xs vs) (b : Below w.heap.size w w') : RX (Yp Y w w') X w' S mb D xs vs := by
  refine s.mv (fun k q => b.block k (s.bl k q)) (fun k q r => ?_) (fun k q => ?_) b.size
  · rcases q with q | q
    · exact s.bd k r q
    · have := s.bl k r; omega
  · rcases q with q | q
    · exact Nat.lt_of_lt_of_le (s.yl k q) b.size
    · exact q.2
def t1 : Aq := ⟨5, 0, 3, true⟩
def t2 : Aq := ⟨8, 1, 3, true⟩
def S01 : Rst := putS S00 t1 3 4294967297 []
def S02 : Rst := putS S01 t2 3 8589934593 []
theorem two_b1 : putB S00 t1 3 4294967297 [] = false := by decide
theorem two_b2 : putB S01 t2 3 8589934593 [] = true := by decide
theorem two_rl : rl S02.f 8 = [⟨3, 8, 1, 1, true⟩] := by rfl
set_option maxRecDepth 100000 in
set_option maxHeartbeats 3200000 in
theorem small19 (w : World) : Calls Try.prog 19 #[] w fun r w' => r = .returned (.bool true) ∧ Below w.heap.size w w' := by
  have NA := hide (new_any' w)
  unfold pt at NA
  go_enter Try.func19, Try.ntmps19
  go_wp2_with fail
  refine NA.out.mono ?_
  rintro r w1 ⟨rfl, s1, k1⟩
  have S1 := hide s1
  have K1 := hide k1
  clear s1 k1 NA
  obtain ⟨X, hX⟩ : ∃ X, w.heap.size + 1 = X := ⟨_, rfl⟩
  rw [hX] at S1 ⊢
  clear hX
  go_wp2_with fail
  refine (Ep.pack_ok 0 1 (by decide) (by decide) (by decide) (by decide) _).mono ?_
  rintro r w0 ⟨rfl, e0⟩
  obtain rfl := e0.symm
  go_wp2_with fail
  refine (Ep.pack_ok 1 1 (by decide) (by decide) (by decide) (by decide) _).mono ?_
  rintro r w0 ⟨rfl, e0⟩
  obtain rfl := e0.symm
  go_wp2_with fail
  refine (cnew_any _).mono ?_
  rintro r w2 ⟨b2, rfl, bl2, n2⟩
  have P1 := put_ok (S1.out.new bl2) t1 3 rfl (by unfold badA t1; decide) 4294967297 (by decide) b2 [] (n2 _)
  unfold PutR at P1
  rw [two_b1] at P1
  have K2 := hide (K1.out.trans (KY.of bl2 S1.out.yl))
  have PH := hide P1
  have SUB := hide (fun k (q : Lw w k) => Yp.sub (w := w1) (w' := w2) q)
  clear P1 n2 bl2 S1 K1
  unfold aV t1 at PH
  go_wp2_with fail
  refine PH.out.mono ?_
  rintro r w3 ⟨rfl, ⟨D3, vs3, s3⟩, k3⟩
  have S3 := hide (s3.less SUB.out)
  have K3 := hide (K2.out.trans (k3.mono SUB.out))
  clear s3 k3 PH K2 SUB
  go_wp2_with fail
  refine (cnew_any _).mono ?_
  rintro r w4 ⟨b4, rfl, bl4, n4⟩
  have P2 := put_ok (S3.out.new bl4) t2 3 rfl (by unfold badA t2; decide) 8589934593 (by decide) b4 [] (n4 _)
  unfold PutR at P2
  have K4 := hide (K3.out.trans (KY.of bl4 S3.out.yl))
  have hb2 : putB (putS S00 ⟨5, 0, 3, true⟩ 3 4294967297 []) t2 3 8589934593 [] = true := two_b2
  rw [hb2] at P2
  have PH := hide P2
  have SUB := hide (fun k (q : Lw w k) => Yp.sub (w := w3) (w' := w4) q)
  clear P2 n4 bl4 S3 K3 hb2
  unfold aV t2 at PH
  go_wp2_with fail
  refine PH.out.mono ?_
  rintro r w5 ⟨rfl, ⟨D5, vs5, s5⟩, k5⟩
  have S5 := hide (s5.less SUB.out)
  have K5 := hide (K4.out.trans (k5.mono SUB.out))
  clear s5 k5 PH K4 SUB
  have RS := races_any' S5.out
  have hrl : rl (putS (putS S00 ⟨5, 0, 3, true⟩ 3 4294967297 []) ⟨8, 1, 3, true⟩ 3 8589934593 []).f 8 = [⟨3, 8, 1, 1, true⟩] := two_rl
  rw [hrl] at RS
  unfold RcR at RS
  have RH := hide RS
  clear RS hrl
  go_wp2_with fail
  refine RH.out.mono ?_
  rintro r w6 ⟨v, rfl, o6, b6⟩
  have K6 := hide (K5.out.trans (KY.of b6 S5.out.yl))
  rcases o6.2 with ⟨-, q⟩ | ⟨gD, cD, cr, rfl, -⟩
  · cases q
  have q0 := o6.cellAt 0 (by decide)
  have q1 := o6.cellAt 1 (by decide)
  have q2 := o6.cellAt 2 (by decide)
  have q3 := o6.cellAt 3 (by decide)
  have q4 := o6.cellAt 4 (by decide)
  simp [rcC, ra5] at q0 q1 q2 q3 q4
  clear o6 b6 S5 K5 RH
  go_wp2_with fail
  go_ret
  exact ⟨rfl, K6.out.lw⟩
end Rep
end Go.Proofs.Ytodppbahihjegaa
