/- Package deed: Releases; the laws' own send(), over this seat's program. -/
import Derived.Test.YtgnhophlnbpcgaaDi
namespace Go.Proofs.Ytgnhophlnbpcgaa
open Go.ChangeShapes Go.WideShapes Go.ChangeAt Go.RowKit
namespace De
open Ba Re

theorem rel_3 (a b : Int) (v : Value) (d : Bool) (oa : Option Addr) (n c : Nat) (hv : v = .slice oa n c) (w : World) :
    Calls Try.prog 33 #[.agg #[.int .i64 3, .int .i64 a, .int .i64 b, v, .bool d]] w fun r w' => r = .returned (.bool true) ∧ Below w.heap.size w w' := by
  subst hv
  go_enter Try.func33, Try.ntmps33
  go_wp2_with fail
  go_ret
  exact ⟨rfl, below_alloc _ _⟩

def o7 : OpD := ⟨3, 2, 7, [], false⟩
def s7 : ByteArray := ⟨#[3, 2, 7, 97]⟩
theorem nx {s : ByteArray} {L : List Nat} {n k : Nat} (h : nbs s = L) (ht : tk L = some (n, k)) : rnum s false = ((n : Int), s.extract k s.size, false) := rnum_s (by rw [h]; exact ht)
theorem nsfx {s : ByteArray} {L : List Nat} (h : nbs s = L) (k : Nat) : nbs (s.extract k s.size) = L.drop k := by
  rw [nbs_extract, ← nbs_length, List.take_length, h]
theorem rop7 : ∃ r, rop s7 false = (o7, r, false) ∧ r.toList = [97] := by
  have h0 : nbs s7 = [3, 2, 7, 97] := by decide
  have r0 := nx h0 (n := 3) (k := 1) (by decide)
  have h1 := nsfx h0 1
  have r1 := nx h1 (n := 2) (k := 1) (by decide)
  have h2 := nsfx h1 1
  have r2 := nx h2 (n := 7) (k := 1) (by decide)
  have h3 := nsfx h2 1
  generalize s7.extract 1 s7.size = S1 at *
  generalize S1.extract 1 S1.size = S2 at *
  generalize S2.extract 1 S2.size = S3 at *
  refine ⟨S3, ?_, ?_⟩
  · unfold rop
    rw [r0]
    simp only [show nf ((3 : Nat) : Int) = 2 from rfl, rf, r1, r2]
    rfl
  · have e : S3 = bs [97] := nbs_inj (by rw [h3, nbs_bs _ (by decide)]; decide)
    rw [e, toList_is]
    decide

set_option maxRecDepth 100000 in
set_option maxHeartbeats 1600000 in
theorem send_any (w : World) :
    Calls Try.prog 12 #[] w fun r w' => r = .returned (.bool true) ∧ Below w.heap.size w w' := by
  obtain ⟨R, hR, hR2⟩ := rop7
  have HR := hide hR
  have e1 : (bs (pls (nums o7))).toList = [3, 2, 7] := by rw [toList_is]; decide
  go_enter Try.func12, Try.ntmps12
  go_wp2_with fail
  refine (encode_ok o7 _ _ 1 _ (CAt.nil _ _) (by decide) (by decide) (nums_ok (by decide : chk o7 1 = 0))).mono ?_
  generalize bs (pls (nums o7)) = E at e1 ⊢
  rintro r w1 ⟨rfl, b1⟩
  have O1 := hide (heap_below (heap_new w (.cells #[.int .i64 3, .int .i64 2, .int .i64 7, .slice none 0 0, .bool false] 24)) b1)
  have B1 := hide (btr (below_alloc _ _) b1)
  clear b1
  go_wp2_with fail
  refine (decode_main s7 1 _ (by decide)).mono ?_
  rw [HR.out]
  rintro r w2 ⟨⟨hq, _⟩ | ⟨_, _, oa, c, rfl, hA⟩, b2⟩
  · rcases hq with hq | hq
    · cases hq
    · simp only at hq
      exact absurd hq (by decide)
  have O2 := hide (heap_below O1.out b2)
  have B2 := hide (btr B1.out b2)
  have A2 := hide hA
  clear b2 hA hR
  have oc0 := cell_of O2.out 0
  have oc1 := cell_of O2.out 1
  have oc2 := cell_of O2.out 2
  have oc3 := cell_of O2.out 3
  have oc4 := cell_of O2.out 4
  have olt := heap_lt O2.out
  simp at oc0 oc1 oc2 oc3 oc4
  have A3 := hide (A2.out.below (below_alloc w2 (.cells #[.int .i64 3, .int .i64 2, .int .i64 7, .slice oa 0 c, .bool false] 24)))
  simp only [o7, List.length_nil]
  go_wp2_with fail
  refine (plain_any o7 o7 _ _ _ _ _ (CAt.nil _ _) (CAt.nil _ _) (by decide) (by decide)).mono ?_
  rintro r w3 ⟨⟨x, rfl, hx⟩, b3⟩
  obtain rfl : x = true := hx.2 rfl
  have O3 := hide (heap_below O2.out (btr (below_alloc _ _) b3))
  have B3 := hide (btr B2.out (btr (below_alloc _ _) b3))
  have od0 := cell_of O3.out 0
  have od1 := cell_of O3.out 1
  have od2 := cell_of O3.out 2
  have od3 := cell_of O3.out 3
  have od4 := cell_of O3.out 4
  simp at od0 od1 od2 od3 od4
  clear b3 hx
  go_wp2_with fail
  refine (rel_3 2 7 _ false none 0 0 rfl _).mono ?_
  rintro r w4 ⟨rfl, b4⟩
  have B4 := hide (btr B3.out b4)
  clear b4
  go_wp2_with fail
  go_ret
  exact ⟨rfl, B4.out⟩
end De
end Go.Proofs.Ytgnhophlnbpcgaa
