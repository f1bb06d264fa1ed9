/- Package watch, over this seat's program: Know, Tell, Clock, Tid, Can, Epoch. -/
import Derived.Test.YtakbbhngcdccpaaGreatUb
namespace Go.Proofs.YtakbbhngcdccpaaGreat
open Go.ChangeShapes Go.WideShapes Go.ChangeAt Go.RowKit
namespace Wa
open Ck

theorem know_nil (g : Int) (v : Value) (w : World) : Calls Tryz.prog 75 #[.pointer none, .int .i64 g, v] w fun r w' => r = .returned (.int .i64 6) ∧ Below w.heap.size w w' := by
  have FN := hide (find_nil g w)
  unfold mZ at FN
  go_enter Tryz.func75, Tryz.ntmps75
  go_wp2_with fail
  refine FN.out.mono ?_
  rintro r w1 ⟨rfl, b1⟩
  have B1 := hide b1
  clear b1
  go_wp2_with fail
  go_ret
  exact ⟨rfl, btr B1.out (below_alloc _ _)⟩
set_option maxHeartbeats 1600000 in
theorem know_any {Y : Nat → Prop} {B : Nat} {w : World} {st : Wst} {h : Nat → Option (List Int)} (s : WW Y B w st h) (g : Int) (hg : (Lit.int .i64 g).wf = true) (t b c : Nat) (l m : List Int) (hf : st.f g = some (t, b)) (hb : h b = some l) (hc : h c = some m) :
    Calls Tryz.prog 75 #[.pointer (some ⟨B, 0, none⟩), .int .i64 g, .pointer (some ⟨c, 0, none⟩)] w fun r w' => r = .returned (.int .i64 0) ∧ WW Y B w' st (upd h b (jn l m)) ∧ Kp Y w w' := by
  obtain ⟨mb, D, s⟩ := s
  have FN := hide (find_some s g hg t b hf)
  unfold mV at FN
  have HS := hide s
  have HB := hide hb
  have HC := hide hc
  clear s hb hc hg
  go_enter Tryz.func75, Tryz.ntmps75
  go_wp2_with fail
  refine FN.out.mono ?_
  rintro r w1 ⟨rfl, b1⟩
  have S2 := hide (HS.out.below (btr b1 (below_alloc w1 (.cells #[.int .i64 (t : Int), .pointer (some ⟨b, 0, none⟩)] 71))))
  have K2 := hide (Kp.of (X := Y) (btr b1 (below_alloc w1 (.cells #[.int .i64 (t : Int), .pointer (some ⟨b, 0, none⟩)] 71))) HS.out.ylt)
  have CJ := hide (cx_join S2.out.cx (hx_at HB.out) (hx_at HC.out))
  clear b1 FN
  go_wp2_with fail
  refine CJ.out.mono ?_
  rintro r w3 ⟨rfl, c3, k3⟩
  have S3 : Hid (WX Y B w3 st (upd h b (jn l m)) mb D) := S2.out.clk (by rw [← hx_upd]; exact c3) k3 (fun b' l2 e => by
    by_cases q : b' = b
    · exact ⟨_, by rw [q]; exact upd_same _ _ _⟩
    · exact ⟨l2, by rw [upd_other _ _ _ _ q]; exact e⟩)
  have K3 := hide (K2.out.trans (Kp.mono k3 fun k q => .inl q))
  clear c3 k3 CJ
  go_wp2_with fail
  go_ret
  exact ⟨rfl, ⟨_, _, S3.out⟩, K3.out⟩
theorem tell_nil (g : Int) (w : World) : Calls Tryz.prog 80 #[.pointer none, .int .i64 g] w fun r w' => r = .returned (.tuple #[.pointer none, .int .i64 6]) ∧ Below w.heap.size w w' := by
  have FN := hide (find_nil g w)
  unfold mZ at FN
  go_enter Tryz.func80, Tryz.ntmps80
  go_wp2_with fail
  refine FN.out.mono ?_
  rintro r w1 ⟨rfl, b1⟩
  have B1 := hide b1
  clear b1
  go_wp2_with fail
  go_ret2
  exact ⟨rfl, btr B1.out (below_alloc _ _)⟩
theorem clock_nil (g : Int) (w : World) : Calls Tryz.prog 76 #[.pointer none, .int .i64 g] w fun r w' => r = .returned (.tuple #[.pointer none, .bool false]) ∧ Below w.heap.size w w' := by
  have FN := hide (find_nil g w)
  unfold mZ at FN
  go_enter Tryz.func76, Tryz.ntmps76
  go_wp2_with fail
  refine FN.out.mono ?_
  rintro r w1 ⟨rfl, b1⟩
  have B1 := hide b1
  clear b1
  go_wp2_with fail
  go_ret2
  exact ⟨rfl, btr B1.out (below_alloc _ _)⟩
theorem tid_nil (g : Int) (w : World) : Calls Tryz.prog 14 #[.pointer none, .int .i64 g] w fun r w' => r = .returned (.tuple #[.int .i64 0, .bool false]) ∧ Below w.heap.size w w' := by
  have FN := hide (find_nil g w)
  unfold mZ at FN
  go_enter Tryz.func14, Tryz.ntmps14
  go_wp2_with fail
  refine FN.out.mono ?_
  rintro r w1 ⟨rfl, b1⟩
  have B1 := hide b1
  clear b1
  go_wp2_with fail
  go_ret2
  exact ⟨rfl, btr B1.out (below_alloc _ _)⟩
theorem can_nil (g : Int) (w : World) : Calls Tryz.prog 16 #[.pointer none, .int .i64 g] w fun r w' => r = .returned (.bool false) ∧ Below w.heap.size w w' := by
  have FN := hide (find_nil g w)
  unfold mZ at FN
  go_enter Tryz.func16, Tryz.ntmps16
  go_wp2_with fail
  refine FN.out.mono ?_
  rintro r w1 ⟨rfl, b1⟩
  have B1 := hide b1
  clear b1
  go_wp2_with fail
  go_region
  all_goals
    go_wp2_with fail
    go_ret
    exact ⟨rfl, btr (btr B1.out (below_alloc _ _)) (Ba.bdrew1 _)⟩
set_option maxHeartbeats 1600000 in
theorem clock_any {Y : Nat → Prop} {B : Nat} {w : World} {st : Wst} {h : Nat → Option (List Int)} (s : WW Y B w st h) (g : Int) (hg : (Lit.int .i64 g).wf = true) (t b : Nat) (l : List Int) (hf : st.f g = some (t, b)) (hb : h b = some l) :
    Calls Tryz.prog 76 #[.pointer (some ⟨B, 0, none⟩), .int .i64 g] w fun r w' => ∃ A, r = .returned (.tuple #[.pointer (some ⟨A, 0, none⟩), .bool true]) ∧ h A = none ∧ WW Y B w' st (upd h A l) ∧ Kp Y w w' := by
  obtain ⟨mb, D, s⟩ := s
  have FN := hide (find_some s g hg t b hf)
  unfold mV at FN
  have HS := hide s
  have HB := hide hb
  clear s hb hg
  go_enter Tryz.func76, Tryz.ntmps76
  go_wp2_with fail
  refine FN.out.mono ?_
  rintro r w1 ⟨rfl, b1⟩
  have S2 := hide (HS.out.below (btr b1 (below_alloc w1 (.cells #[.int .i64 (t : Int), .pointer (some ⟨b, 0, none⟩)] 71))))
  have K2 := hide (Kp.of (X := Y) (btr b1 (below_alloc w1 (.cells #[.int .i64 (t : Int), .pointer (some ⟨b, 0, none⟩)] 71))) HS.out.ylt)
  have CP := hide (copy_wx S2.out HB.out)
  clear b1 FN
  go_wp2_with fail
  refine CP.out.mono ?_
  rintro r w3 ⟨A, rfl, hA, s3, k3⟩
  have S3 := hide s3
  have HA := hide hA
  have K3 := hide (K2.out.trans (Kp.mono k3 fun k q => .inl q))
  clear s3 hA k3
  go_wp2_with fail
  go_ret2
  exact ⟨A, rfl, HA.out, ⟨_, _, S3.out⟩, K3.out⟩
end Wa
end Go.Proofs.YtakbbhngcdccpaaGreat
