/- For every list of events and every string, the law EntryAll returns true, so all events' bytes, and the events that any bytes are, are as the document says: under no condition. -/
import Derived.Test.YtlcaelfkgillmaaOg
import Derived.Test.YtlcaelfkgillmaaOh
import Derived.Test.YtlcaelfkgillmaaOc
import Derived.ShutString
import Derived.ChangeOld
import Derived.Below
namespace Go.Proofs.Ytlcaelfkgillmaa.entryAll
open Go.ChangeShapes Go.WideShapes Go.ChangeAt Go.RowKit
open Go.ChangeMaps (open_string shut_string)
open En Ba Re

theorem own : ownKnob Try.prog.godebug = none := by kernel_rfl
theorem laidOut : laidOutB Try.prog = true := by kernel_rfl

theorem alls (oa : Option Addr) (l : List Ev) (c : Nat) (w : World) (hl : l.length ≤ 2100) (hA : EsAt w oa l) : ∃ (L : List Nat) (x : Int), Calls Try.prog 16 #[.slice oa l.length c] w (fun r w' => r = .returned (.tuple #[.string (bs L), .int .i64 x]) ∧ Below w.heap.size w w') ∧ ∀ w1, EsAt w1 oa l → Calls Try.prog 17 #[.slice oa l.length c] w1 fun r w' => r = .returned (.tuple #[.string (bs L), .int .i64 x]) ∧ Below w1.heap.size w1 w' := by
  by_cases h : 2000 < l.length
  · exact ⟨[], 2, all_long oa l.length c w (by unfold maxLen; omega) h, fun w1 _ => rall_long oa l.length c w1 (by unfold maxLen; omega) h⟩
  · exact ⟨_, _, all_any oa l c w hA (by omega) _ _ rfl rfl, fun w1 h1 => rall_any oa l c w1 h1 (by omega) _ _ rfl rfl⟩
theorem rdL_len (L : List Nat) : (rdL L).length ≤ 2000 := by
  unfold rdL
  cases rd L with
  | none => simp
  | some es =>
    simp only
    split
    · assumption
    · simp
set_option maxRecDepth 100000 in
set_option maxHeartbeats 3200000 in
theorem core {w : World} (oa : Option Addr) (l : List Ev) (c : Nat) (hA : EsAt w oa l) (hl : l.length ≤ maxLen) (s : ByteArray) (hs : s.size ≤ maxLen) :
    Calls Try.prog 5 #[.slice oa l.length c, .string s] w fun r w' => r = .returned (.bool true) ∧ Below w.heap.size w w' := by
  unfold maxLen at hl hs
  have HA := hide hA
  clear hA
  have B0 := hide (Below.refl w.heap.size w)
  by_cases h1 : 2100 < l.length
  · have h1' : (2100 : Int) < (l.length : Int) := by omega
    clear HA
    go_enter Try.func5, Try.ntmps5
    go_wp2_with fail
    refine (exit_any _).mono ?_
    rintro r w9 ⟨rfl, b9⟩
    have B9 := hide (btr B0.out b9)
    clear b9
    go_wp2_with fail
    go_ret
    exact ⟨rfl, B9.out⟩
  have h1' : ¬ (2100 : Int) < (l.length : Int) := by omega
  by_cases h2 : 20000 < s.size
  · have h2' : (20000 : Int) < (s.size : Int) := by omega
    clear HA
    go_enter Try.func5, Try.ntmps5
    go_wp2_with fail
    refine (exit_any _).mono ?_
    rintro r w9 ⟨rfl, b9⟩
    have B9 := hide (btr B0.out b9)
    clear b9
    go_wp2_with fail
    go_ret
    exact ⟨rfl, B9.out⟩
  have h2' : ¬ (20000 : Int) < (s.size : Int) := by omega
  obtain ⟨L, x, al, ral⟩ := alls oa l c w (by omega) HA.out
  have AL := hide al
  have RAL := hide ral
  clear al ral
  have RD := hide fun u => read_any s u
  have RRD := hide fun u => rread_any s u (by omega)
  have hn := rdL_len (nbs s)
  generalize rdL (nbs s) = es at RD RRD hn
  generalize rdE (nbs s) = y at RD RRD
  have e1 : ((bs L).toList == (bs L).toList) = true := beq_self_eq_true _
  have e2 : (x == x) = true := beq_self_eq_true _
  have e3 : (y == y) = true := beq_self_eq_true _
  go_enter Try.func5, Try.ntmps5
  go_wp2_with fail
  refine AL.out.mono ?_
  rintro r w1 ⟨rfl, b1⟩
  have B1 := hide b1
  have R1 := hide (RAL.out w1 (HA.out.below b1))
  clear b1 AL RAL
  go_wp2_with fail
  refine R1.out.mono ?_
  rintro r w2 ⟨rfl, b2⟩
  have B2 := hide (btr B1.out b2)
  clear b2 R1
  go_wp2_with fail
  refine (RD.out _).mono ?_
  rintro r w3 ⟨⟨ox, cx, rfl, a3⟩, b3⟩
  have A3 := hide a3
  have B3 := hide (btr B2.out b3)
  clear b3 a3 RD
  go_wp2_with fail
  refine (RRD.out _).mono ?_
  rintro r w4 ⟨⟨oy, cy, rfl, a4⟩, b4⟩
  have EV := hide (events_same ox oy es cx cy w4 (A3.out.below b4) a4 (by omega))
  have B4 := hide (btr B3.out b4)
  clear b4 a4 RRD A3
  go_wp2_with fail
  refine EV.out.mono ?_
  rintro r w5 ⟨rfl, b5⟩
  have B5 := hide (btr B4.out b5)
  clear b5 EV
  go_wp2_with fail
  refine (exit_any _).mono ?_
  rintro r w9 ⟨rfl, b9⟩
  have B9 := hide (btr B5.out b9)
  clear b9
  go_wp2_with fail
  go_ret
  exact ⟨rfl, B9.out⟩

/-! ### the row -/
set_option maxRecDepth 100000 in
theorem lifted (os : Os) (started : os.Started) (H : Type) (enc : TypeId × Value → H) :
    ReturnsInHanded {} Try.checked os 5 .any (Rows.entryAllSpec.pre6 enc Try.prog Try.f5 Rows.entryAllRow.domain false) (Rows.entryAllSpec.post enc Try.prog Try.f5 false true false false) := by
  refine returnsInHanded_of_change (C := Try.checked) own started (by kernel_rfl) Try.func5
    (ChangeSpec.witness6 (enc := enc) (C := Try.checked) false ⟨#[], #[.slice none 0 0, .string ByteArray.empty], []⟩ 8 (by kernel_rfl) (by kernel_rfl) (by kernel_rfl) (by kernel_rfl)) ?_
  intro W base args ds gs before hval0 hW hcnd _
  have hval : ∀ (j : Nat) t v, Try.f5.params[j]? = some t → args[j]? = some v → Value.okWide Try.prog W .any base t v := hval0
  have hW' := hW
  obtain ⟨p, q, hA0, hV, rfl, hfz, hnd⟩ := hW
  have hA : DataW.TrodAll enc Try.prog W 0 (fun _ => true) true Try.f5.params.toList args.toList ds p := hA0
  rw [Try.params5] at hA hval
  obtain ⟨v0, vs0, d0, ds0, p0, q0, hargs, rfl, rfl, h0, r0⟩ := trodAll_cons hA
  obtain ⟨v1, vs1, d1, ds1, p1, q1, rfl, rfl, rfl, h1, r1⟩ := trodAll_cons r0
  obtain ⟨rfl, rfl, rfl⟩ := trodAll_nil r1
  obtain rfl : args = #[v0, v1] := by cases args; simp_all
  obtain ⟨rfl, rfl⟩ := trodVars_none hV
  obtain ⟨oa0, n0, c0, rfl⟩ := okWide_slice Try.underlying40 (hval 0 40 v0 rfl rfl)
  have k0 := h0
  have lt0 : ∀ x ∈ p0, x.block < W.heap.size := by obtain ⟨m, hm⟩ := k0; exact DataW.trod_lt m _ _ _ hm
  obtain ⟨l0, rfl, A0, C0, M0⟩ := h0.elim fun _ hf => events_open hf
  obtain ⟨a1, rfl, rfl, rfl, w1⟩ := open_string Try.underlying9 (hval 1 9 v1 rfl rfl) h1
  clear hA0 hval0
  refine (core (w := W) oa0 l0 c0 A0 (Nat.le_trans C0 M0) a1 w1).mono fun e W' ⟨he, bel⟩ => ?_
  subst he
  exact ⟨_, rfl, _, _, _, [], _, [], hW', trodAll_mk1 (shut_bool Try.underlying4 _), (trodAll_cons_mk (Below.trod laidOut (by kernel_rfl) (of_decide_eq_true (by kernel_rfl)) k0 bel lt0) (trodAll_cons_mk (shut_string Try.underlying9 w1) trodAll_mk0)), rfl, bel.frame _, fun h => by cases h⟩

theorem over : Rows.entryAllRow.holds Try.pinned (OpenSpec.ofChange Rows.entryAllSpec) :=
  OpenClaim.holds_of_wide 5 Try.f5 rfl rfl rfl rfl rfl rfl rfl ⟨rfl, rfl, rfl, rfl, rfl⟩ rfl rfl rfl rfl rfl (by kernel_rfl) Try.func5 (by kernel_rfl)
    (of_decide_eq_true (by kernel_rfl)) (by unfold Func.isWrapper; first | (rw [if_pos (by decide +kernel)]; kernel_rfl) | (rw [if_neg (by decide +kernel)]; exact ⟨rfl, rfl⟩))
    (fun os started H enc _ => lifted os started H enc)

/-- the statement -/
theorem proved : Rows.EntryAllSaid := over
#print axioms proved
end Go.Proofs.Ytlcaelfkgillmaa.entryAll
