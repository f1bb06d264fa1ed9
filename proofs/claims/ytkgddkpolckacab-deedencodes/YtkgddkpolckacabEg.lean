/- The laws' own long(), over this seat's program. -/
import Derived.Test.YtkgddkpolckacabEf
namespace Go.Proofs.Ytkgddkpolckacab
open Go.ChangeShapes Go.WideShapes Go.ChangeAt Go.RowKit
namespace Re
open Ba

set_option maxRecDepth 100000 in
set_option maxHeartbeats 1600000 in
theorem long_any (w : World) :
    Calls Try.prog 10 #[] w fun r w' => r = .returned (.bool true) ∧ Below w.heap.size w w' := by
  have t1 : (bs (spl 256)).toList = [242, 1, 0] := by rw [toList_is]; decide
  have t2 : ((⟨#[242, 1, 0, 97]⟩ : ByteArray).extract 3 4).toList = [97] := by rw [toList_is, ByteArray.data_extract]; decide
  go_enter Try.func10, Try.ntmps10
  go_wp2_with fail
  refine (put_ok 256 (by decide) _).mono ?_
  rintro r w1 ⟨rfl, hb1⟩
  have B1 := hide hb1
  clear hb1
  go_wp2_with fail
  refine (take_some _ 256 3 (by decide) _).mono ?_
  rintro r w2 ⟨rfl, hb2⟩
  have B2 := hide (btr B1.out hb2)
  clear hb2
  go_wp2_with fail
  refine (size_any 239 _).mono ?_
  rintro r w3 ⟨rfl, hb3⟩
  have B3 := hide (btr B2.out hb3)
  clear hb3
  have z : szn 239 = 1 := by decide
  go_wp2_with fail
  go_ret
  exact ⟨rfl, B3.out⟩
end Re
end Go.Proofs.Ytkgddkpolckacab
