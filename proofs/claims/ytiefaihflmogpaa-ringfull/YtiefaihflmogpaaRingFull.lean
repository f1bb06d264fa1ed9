/- For every size and every number, the law RingFull returns true, so a ring takes just as many values as its capacity, and a turn keeps it full: under no condition. -/
import Derived.Test.YtiefaihflmogpaaGd
import Derived.ShutString
import Derived.ChangeOld
import Derived.Below
namespace Go.Proofs.Ytiefaihflmogpaa.ringFull
open Go.ChangeShapes Go.WideShapes Go.ChangeAt Go.RowKit
open Go.ChangeMaps (open_string shut_string)
open Rn Ba

theorem own : ownKnob Try.prog.godebug = none := by kernel_rfl
theorem laidOut : laidOutB Try.prog = true := by kernel_rfl

theorem rep_add (n : Nat) (v : Int) : List.replicate n v ++ [v] = List.replicate (n + 1) v := by
  rw [List.replicate_succ']
theorem nth_rep (n : Nat) (v : Int) (h : n ≠ 0) : nth (List.replicate n v) 0 = v := by
  cases n with
  | zero => exact absurd rfl h
  | succ n => rfl
theorem tl_rep (n : Nat) (v : Int) (h : n ≠ 0) : tl (List.replicate n v) v = List.replicate n v := by
  cases n with
  | zero => exact absurd rfl h
  | succ n => simp [tl, List.replicate_succ]; rw [rep_add, List.replicate_succ]
theorem oe_rep (n : Nat) (v : Int) (h : n ≠ 0) : oe (List.replicate n v) = 0 := by simp [oe, h]

set_option maxRecDepth 100000 in
set_option maxHeartbeats 1600000 in
theorem core {w : World} (s v : Int) :
    Calls Try.prog 8 #[.int .i64 s, .int .i64 v] w fun r w' => r = .returned (.bool true) ∧ Below w.heap.size w w' := by
  by_cases hs : s < 0 ∨ 4 < s
  · have NW := hide (new_err s w hs)
    by_cases h1 : s < 0
    · have d1 : decide (s < 0) = true := decide_eq_true h1
      clear hs
      go_enter Try.func8, Try.ntmps8
      go_wp2_with fail
      refine NW.out.mono ?_
      rintro r w1 ⟨rfl, rfl⟩
      go_wp2_with fail
      refine (two_any _).mono ?_
      rintro r w3 ⟨rfl, b3⟩
      have B3 := hide b3
      clear b3
      go_wp2_with fail
      go_ret
      exact ⟨rfl, B3.out⟩
    · have d1 : decide (s < 0) = false := decide_eq_false h1
      have d2 : decide (4 < s) = true := decide_eq_true (by omega)
      clear hs
      go_enter Try.func8, Try.ntmps8
      go_wp2_with fail
      refine NW.out.mono ?_
      rintro r w1 ⟨rfl, rfl⟩
      go_wp2_with fail
      refine (two_any _).mono ?_
      rintro r w3 ⟨rfl, b3⟩
      have B3 := hide b3
      clear b3
      go_wp2_with fail
      go_ret
      exact ⟨rfl, B3.out⟩
  obtain ⟨n, rfl⟩ := Int.eq_ofNat_of_zero_le (show 0 ≤ s by omega)
  have hn : n ≤ 4 := by omega
  clear hs
  go_enter Try.func8, Try.ntmps8
  go_wp2_with fail
  refine (new_ok n _ hn).mono ?_
  rintro r w1 ⟨rfl, g1, b1⟩
  have G1 := hide g1
  have B1 := hide b1
  clear g1 b1
  go_wp2_with fail
  go_loopw [7] (fun i wr => ∃ (k : Nat), k ≤ n ∧ i = .int .i64 k ∧ Rg wr w.heap.size n (List.replicate k v) ∧ Below w.heap.size w wr) (fun i _ => n - (intOf i).toNat)
  case atStart => exact ⟨0, Nat.zero_le _, rfl, G1.out, B1.out⟩
  case round =>
    clear G1 B1
    obtain ⟨k, hk, rfl, g2, b2⟩ := hrel
    have G2 := hide g2
    have B2 := hide b2
    clear g2 b2
    by_cases hlt : k < n
    · have hlt' : (k : Int) < (n : Int) := by omega
      go_wp2_with fail
      refine (push_ok _ n _ v _ G2.out (by simpa using hlt)).mono ?_
      rintro r w3 ⟨rfl, g3, k3⟩
      rw [rep_add] at g3
      have G3 := hide g3
      have B3 := hide (KB.below B2.out k3 (Nat.le_refl _))
      clear g3 k3
      go_wp2_with fail
      go_roundw
      case rel => exact ⟨k + 1, by omega, by go_num, G3.out, B3.out⟩
      case measure => simp [intOf]; omega
    · have hlt' : ¬ ((k : Int) < (n : Int)) := by omega
      obtain rfl : k = n := by omega
      go_wp2_with fail
      refine (turn_any _ k (List.replicate k v) v _ G2.out).mono ?_
      rintro r w3 ⟨rfl, g3, k3⟩
      by_cases h0 : k = 0
      · subst h0
        have G3 : Hid (Rg w3 w.heap.size 0 []) := g3
        have B3 := hide (KB.below B2.out k3 (Nat.le_refl _))
        clear g3 k3
        simp only [show nth (List.replicate 0 v) 0 = 0 from rfl, show oe (List.replicate 0 v) = 6 from rfl]
        go_wp2_with fail
        refine (push_full _ 0 [] v _ G3.out rfl).mono ?_
        rintro r w4 ⟨rfl, rfl⟩
        go_wp2_with fail
        refine (two_any _).mono ?_
        rintro r w5 ⟨rfl, b5⟩
        have B5 := hide (btr B3.out b5)
        clear b5
        go_wp2_with fail
        go_ret
        exact ⟨rfl, B5.out⟩
      · have h0' : ((k : Int) == 0) = false := by rw [beq_eq_false_iff_ne]; omega
        rw [tl_rep k v h0] at g3
        have G3 := hide g3
        have B3 := hide (KB.below B2.out k3 (Nat.le_refl _))
        clear g3 k3
        rw [nth_rep k v h0, oe_rep k v h0]
        go_wp2_with fail
        refine (len_any _ k _ _ G3.out).mono ?_
        rw [List.length_replicate]
        rintro r w4 ⟨rfl, rfl⟩
        go_wp2_with fail
        refine (push_full _ k _ v _ G3.out (by simp)).mono ?_
        rintro r w4 ⟨rfl, rfl⟩
        go_wp2_with fail
        refine (two_any _).mono ?_
        rintro r w5 ⟨rfl, b5⟩
        have B5 := hide (btr B3.out b5)
        clear b5
        go_wp2_with fail
        go_ret
        exact ⟨rfl, B5.out⟩

/-! ### the row -/
set_option maxRecDepth 100000 in
theorem lifted (os : Os) (started : os.Started) (H : Type) (enc : TypeId × Value → H) :
    ReturnsInHanded {} Try.checked os 8 .any (Rows.ringFullSpec.pre6 enc Try.prog Try.f8 Rows.ringFullRow.domain false) (Rows.ringFullSpec.post enc Try.prog Try.f8 false true false false) := by
  refine returnsInHanded_of_change (C := Try.checked) own started (by kernel_rfl) Try.func8
    (ChangeSpec.witness6 (enc := enc) (C := Try.checked) false ⟨#[], #[.int .i64 0, .int .i64 0], []⟩ 8 (by kernel_rfl) (by kernel_rfl) (by kernel_rfl) (by kernel_rfl)) ?_
  intro W base args ds gs before hval0 hW hcnd _
  have hval : ∀ (j : Nat) t v, Try.f8.params[j]? = some t → args[j]? = some v → Value.okWide Try.prog W .any base t v := hval0
  have hW' := hW
  obtain ⟨p, q, hA0, hV, rfl, hfz, hnd⟩ := hW
  have hA : DataW.TrodAll enc Try.prog W 0 (fun _ => true) true Try.f8.params.toList args.toList ds p := hA0
  rw [Try.params8] at hA hval
  obtain ⟨v0, vs0, d0, ds0, p0, q0, hargs, rfl, rfl, h0, r0⟩ := trodAll_cons hA
  obtain ⟨v1, vs1, d1, ds1, p1, q1, rfl, rfl, rfl, h1, r1⟩ := trodAll_cons r0
  obtain ⟨rfl, rfl, rfl⟩ := trodAll_nil r1
  obtain rfl : args = #[v0, v1] := by cases args; simp_all
  obtain ⟨rfl, rfl⟩ := trodVars_none hV
  obtain ⟨a0, rfl, rfl, rfl, w0⟩ := open_int Try.underlying3 (hval 0 3 v0 rfl rfl) h0
  obtain ⟨a1, rfl, rfl, rfl, w1⟩ := open_int Try.underlying3 (hval 1 3 v1 rfl rfl) h1
  clear hA0 hval0
  refine (core (w := W) a0 a1).mono fun e W' ⟨he, bel⟩ => ?_
  subst he
  exact ⟨_, rfl, _, _, _, [], _, [], hW', trodAll_mk1 (shut_bool Try.underlying4 _), (trodAll_cons_mk (shut_int Try.underlying3 w0) (trodAll_cons_mk (shut_int Try.underlying3 w1) trodAll_mk0)), rfl, bel.frame _, fun h => by cases h⟩

theorem over : Rows.ringFullRow.holds Try.pinned (OpenSpec.ofChange Rows.ringFullSpec) :=
  OpenClaim.holds_of_wide 8 Try.f8 rfl rfl rfl rfl rfl rfl rfl ⟨rfl, rfl, rfl, rfl, rfl⟩ rfl rfl rfl rfl rfl (by kernel_rfl) Try.func8 (by kernel_rfl)
    (of_decide_eq_true (by kernel_rfl)) (by unfold Func.isWrapper; first | (rw [if_pos (by decide +kernel)]; kernel_rfl) | (rw [if_neg (by decide +kernel)]; exact ⟨rfl, rfl⟩))
    (fun os started H enc _ => lifted os started H enc)

/-- the statement -/
theorem proved : Rows.RingFullSaid := over
#print axioms proved
end Go.Proofs.Ytiefaihflmogpaa.ringFull
