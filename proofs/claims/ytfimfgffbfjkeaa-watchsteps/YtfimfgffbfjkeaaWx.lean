/- Layer 16's law: looks of nobody, over this seat's program. -/
import Derived.Test.YtfimfgffbfjkeaaWm
import Derived.Test.YtfimfgffbfjkeaaWw
import Derived.Deep.Cut
import Derived.Deep.DeepCutAuto
import Derived.Deep.RegionHeld3
namespace Go.Proofs.Ytfimfgffbfjkeaa
open Go.ChangeShapes Go.WideShapes Go.ChangeAt Go.RowKit
namespace Wq
open Ck
open Wa (Wst WW)

section
variable {Y0 : Nat → Prop} {B G : Nat} {w : World} {st : Wst} {h : Nat → Option (List Int)} {qs : Qst}
set_option maxRecDepth 100000 in
set_option maxHeartbeats 3200000 in
theorem looks_none (j : JW Y0 B G w st h qs) (r : Rw st h qs) (g : Int) (hg : wfk g) (hf : st.f g = none) (ha : at_ qs.L g = -1) :
    Calls Try.prog 10 #[.pointer (some ⟨B, 0, none⟩), .pointer (some ⟨G, 0, none⟩), .int .i64 g] w fun r w' => r = .returned (.bool true) ∧ Below w.heap.size w w' := by
  have hl := r.len j
  obtain ⟨v, s, q, n⟩ := j
  have CL := hide (fun u (b : Below w.heap.size w u) => Wa.clock_none (s.below b) g hg hf)
  have TI := hide (fun u (b : Below w.heap.size w u) => Wa.tid_none (s.below b) g hg hf)
  have CA := hide (fun u (b : Below w.heap.size w u) => Wa.can_none (s.below b) g hg hf)
  have EP := hide (fun u (b : Below w.heap.size w u) => Wa.epoch_none (s.below b) g hg hf)
  have AT := hide (fun u (b : Below w.heap.size w u) => at_any (q.below b) g hl)
  have CN := hide (fun u (b : Below w.heap.size w u) => can_no (q.below b) g hl ha)
  rw [ha] at AT
  clear s q n hl r hf ha hg
  go_enter Try.func10, Try.ntmps10
  go_wp2_with fail
  refine (CL.out _ (Below.refl _ _)).mono ?_
  rintro r w1 ⟨rfl, b1⟩
  have B1 := hide b1
  clear b1
  go_wp2_with fail
  refine (TI.out _ B1.out).mono ?_
  rintro r w2 ⟨rfl, b2⟩
  have B2 := hide (btr B1.out b2)
  clear b2
  go_wp2_with fail
  refine (AT.out _ B2.out).mono ?_
  rintro r w3 ⟨rfl, b3⟩
  have B3 := hide (btr B2.out b3)
  clear b3
  go_wp2_with fail
  refine (CA.out _ B3.out).mono ?_
  rintro r w4 ⟨rfl, b4⟩
  have B4 := hide (btr B3.out b4)
  clear b4
  go_wp2_with fail
  refine (CN.out _ B4.out).mono ?_
  rintro r w5 ⟨rfl, b5⟩
  have B5 := hide (btr B4.out b5)
  clear b5
  go_wp2_with fail
  refine (EP.out _ B5.out).mono ?_
  rintro r w6 ⟨rfl, b6⟩
  have B6 := hide (btr B5.out b6)
  clear b6
  go_wp2_with fail
  go_ret
  exact ⟨rfl, B6.out⟩
end
end Wq
end Go.Proofs.Ytfimfgffbfjkeaa
