/- Every channel, step by step, does as the document's own one does, and says the same; for every capacity and every list of steps. -/
import Derived.Test.YtapabnakbaoijaaKg
import Derived.Test.YtapabnakbaoijaaWh
import Derived.ShutString
import Derived.ChangeOld
import Derived.Below
namespace Go.Proofs.Ytapabnakbaoijaa.pipeSteps
open Go.ChangeShapes Go.WideShapes Go.ChangeAt Go.RowKit
open Go.ChangeMaps (open_string shut_string)
open Ba Pe _root_.Go.Proofs.Ytapabnakbaoijaa.Pi Rp

theorem own : ownKnob Try.prog.godebug = none := by kernel_rfl
theorem laidOut : laidOutB Try.prog = true := by kernel_rfl

set_option maxRecDepth 100000 in
set_option maxHeartbeats 12800000 in
theorem core {w : World} (s : Int) (oa : Option Addr) (l : List (List Int)) (c : Nat) (hA : RAt w oa 4 l) (hl : l.length ≤ maxLen) :
    Calls Try.prog 3 #[.int .i64 s, .slice oa l.length c] w fun r w' => r = .returned (.bool true) ∧ Below w.heap.size w w' := by
  have HA := hide hA
  unfold maxLen at hl
  clear hA
  by_cases hsz : s < 0 ∨ 4 < s
  · go_enter Try.func3, Try.ntmps3
    go_wp2_with fail
    refine (Pi.new_err s _ hsz).mono ?_
    rintro r w1 ⟨rfl, rfl⟩
    go_wp2_with fail
    refine (rnew_err s _ hsz).mono ?_
    rintro r w2 ⟨rfl, rfl⟩
    go_wp2_with fail
    refine (hands_any _).mono ?_
    rintro r w5 ⟨rfl, b5⟩
    have B5 := hide b5
    clear b5
    go_wp2_with fail
    go_ret
    exact ⟨rfl, B5.out⟩
  obtain ⟨n, rfl⟩ := Int.eq_ofNat_of_zero_le (show 0 ≤ s by omega)
  have hn : n ≤ 4 := by omega
  clear hsz
  go_enter Try.func3, Try.ntmps3
  go_wp2_with fail
  refine (Pi.new_ok n _ hn).mono ?_
  rintro r w1 ⟨B, F, rfl, p1, l1, b1⟩
  have P1 := hide p1
  have L1 := hide l1
  have B1 := hide b1
  clear p1 l1 b1
  go_wp2_with fail
  refine (rnew_ok n _ hn).mono ?_
  rintro r w2 ⟨G, R, rfl, r2, l2, b2⟩
  have T2 : Hid (Tp w w2 B G F R 0 (st0 n)) := ⟨P1.out.below b2, r2, fun x hx hr => by have h1 := P1.out.bd x hx; have h2 := l2 x hr; omega, btr B1.out b2, L1.out, fun x hx => Nat.le_trans B1.out.size (l2 x hx), Nat.le_refl _, Nat.le_refl _⟩
  clear r2 l2 b2 P1 L1 B1
  by_cases h3 : 300 < l.length
  · have h3' : decide ((300 : Int) < (l.length : Int)) = true := decide_eq_true (by omega)
    go_wp2_with fail
    refine (hands_any _).mono ?_
    rintro r w5 ⟨rfl, b5⟩
    have B5 := hide (btr T2.out.b b5)
    clear b5
    go_wp2_with fail
    go_ret
    exact ⟨rfl, B5.out⟩
  have h3' : decide ((300 : Int) < (l.length : Int)) = false := decide_eq_false (by omega)
  go_wp2_with fail
  go_loopw [43] (fun j wr => ∃ (k : Nat) (F R : Nat → Prop) (st : St), k ≤ l.length ∧ j = .int .i64 k ∧ st.size = n ∧ Tp w wr B G F R k st) (fun j _ => l.length - (intOf j).toNat)
  case atStart => exact ⟨0, F, R, st0 n, Nat.zero_le _, rfl, rfl, T2.out⟩
  case round =>
    clear T2
    obtain ⟨k, F, R, st, hk, rfl, hsn, t3⟩ := hrel
    have T3 := hide t3
    have HSN := hide hsn
    clear t3 hsn
    by_cases hlt : k < l.length
    · have hlt' : (k : Int) < (l.length : Int) := by omega
      obtain ⟨z, hz⟩ : ∃ z, l[k]? = some z := ⟨_, List.getElem?_eq_getElem hlt⟩
      obtain ⟨b', o', rfl, hc⟩ := (HA.out.below T3.out.b) k z hz
      have q0 := hc 0 (by decide)
      have q1 := hc 1 (by decide)
      have q2 := hc 2 (by decide)
      have q3 := hc 3 (by decide)
      rw [Nat.add_zero] at q0
      clear hc hz
      generalize nth z 0 = what at q0
      generalize nth z 1 = xg at q1
      generalize nth z 2 = xc at q2
      generalize nth z 3 = xv at q3
      have T4 := hide (T3.out.below (below_alloc wr (.cells #[.int .i64 what, .int .i64 xg, .int .i64 xc, .int .i64 xv] 34)))
      have DO := hide (T4.out.does (by omega) what ⟨xg, xc, xv⟩)
      simp only at DO
      clear T3
      go_wp2_with fail
      refine DO.out.mono ?_
      rintro r w5 ⟨rfl, F5, R5, st5, -, hs5, t5⟩
      have T5 := hide t5
      have HS5 := hide (hs5.trans HSN.out)
      clear t5 hs5 q0 q1 q2 q3 T4 DO
      obtain ⟨ol, cl, os, cs, oq, cq, ro⟩ := T5.out.open
      have RO5 := hide ro
      clear ro
      go_wp2_with fail
      refine (counts_any B F5 st5 _ T5.out.p).mono ?_
      rintro r w6 ⟨rfl, b6⟩
      have T6 := hide (T5.out.below b6)
      have RO6 := hide (RO5.out.below b6)
      clear b6
      have g5 : w6.cell? ⟨G, 5, none⟩ = some (.int .i64 (st5.sent : Int)) := cell_of RO6.out.hp 5
      have g6 : w6.cell? ⟨G, 6, none⟩ = some (.int .i64 (st5.got : Int)) := cell_of RO6.out.hp 6
      have g1 : w6.cell? ⟨G, 1, none⟩ = some (.slice ol st5.buf.length cl) := cell_of RO6.out.hp 1
      have g2 : w6.cell? ⟨G, 2, none⟩ = some (.slice os st5.snd.length cs) := cell_of RO6.out.hp 2
      have g3 : w6.cell? ⟨G, 3, none⟩ = some (.slice oq st5.rcv.length cq) := cell_of RO6.out.hp 3
      have g4 : w6.cell? ⟨G, 4, none⟩ = some (.bool st5.closed) := cell_of RO6.out.hp 4
      have TT := hide (T6.out.below (bdrew1 _))
      have AS := hide ((own_wat RO6.out.rs).below (bdrew1 _))
      have AQ := hide ((own_wat RO6.out.rq).below (bdrew1 _))
      have lS := RO6.out.les
      have lQ := RO6.out.leq
      clear RO5 RO6 T5
      go_wp2_with fail
      simp only [List.append_eq, List.cons_append, List.nil_append]
      go_region_held3 (fun w' => w'.cell? ⟨G, 1, none⟩ = some (.slice ol st5.buf.length cl) ∧ w'.cell? ⟨G, 2, none⟩ = some (.slice os st5.snd.length cs) ∧ w'.cell? ⟨G, 3, none⟩ = some (.slice oq st5.rcv.length cq) ∧ w'.cell? ⟨G, 4, none⟩ = some (.bool st5.closed) ∧ w'.cell? ⟨G, 5, none⟩ = some (.int .i64 (st5.sent : Int)) ∧ w'.cell? ⟨G, 6, none⟩ = some (.int .i64 (st5.got : Int)))
        (first
          | go_keep
          | (go_split_ands
             first
             | (refine ⟨?_, ?_, ?_, ?_, ?_, ?_⟩ <;> (refine cellB ?_ k8; assumption))
             | (refine ⟨?_, ?_, ?_, ?_, ?_, ?_⟩ <;> (refine cellB ?_ k7; assumption))
             | (refine ⟨?_, ?_, ?_, ?_, ?_, ?_⟩ <;> (refine cellB ?_ k6; assumption))
             | (refine ⟨?_, ?_, ?_, ?_, ?_, ?_⟩ <;> (refine cellB ?_ k5; assumption))
             | (refine ⟨?_, ?_, ?_, ?_, ?_, ?_⟩ <;> (refine cellB ?_ k4; assumption))
             | (refine ⟨?_, ?_, ?_, ?_, ?_, ?_⟩ <;> (refine cellB ?_ k3; assumption))
             | (refine ⟨?_, ?_, ?_, ?_, ?_, ?_⟩ <;> (refine cellB ?_ k2; assumption))
             | (refine ⟨?_, ?_, ?_, ?_, ?_, ?_⟩ <;> (refine cellB ?_ k1; assumption))))
        (first
          | (go_at_call 13; refine (Pi.len_any B F5 st5 _ TT.out.p).mono ?_; rintro r z0 ⟨rfl, rfl⟩)
          | (go_at_call 14; refine (cap_is B F5 st5 n _ TT.out.p HS5.out).mono ?_; rintro r z0 ⟨rfl, rfl⟩)
          | (go_at_call 15; refine (closed_any B F5 st5 _ TT.out.p).mono ?_; rintro r z0 ⟨rfl, rfl⟩)
          | (go_at_call_of 16 (Value.bool true); refine (Ready_any B F5 st5 true _ TT.out.p).mono ?_; rintro r z1 ⟨rfl, k1⟩)
          | (go_at_call_of 17 (Value.bool true); refine (rready_any G R5 st5 true _ (TT.out.r.below k1)).mono ?_; rintro r z2 ⟨rfl, k2⟩)
          | (go_at_call_of 16 (Value.bool false); refine (Ready_any B F5 st5 false _ (TT.out.p.below (btr k1 k2))).mono ?_; rintro r z3 ⟨rfl, k3⟩)
          | (go_at_call_of 17 (Value.bool false); refine (rready_any G R5 st5 false _ (TT.out.r.below (btr k1 (btr k2 k3)))).mono ?_; rintro r z4 ⟨rfl, k4⟩)
          | (go_at_call_of 19 (Value.bool true); refine (waiting_t B F5 st5 _ (TT.out.p.below (btr k1 (btr k2 (btr k3 k4))))).mono ?_; rintro r z5 ⟨o5, c5, rfl, at5, k5⟩)
          | (go_at_call_of 18 (Value.slice os st5.snd.length cs); refine (same_any o5 os st5.snd c5 cs _ at5 (AS.out.below (btr k1 (btr k2 (btr k3 (btr k4 k5))))) lS).mono ?_; rintro r z6 ⟨rfl, k6⟩)
          | (go_at_call_of 19 (Value.bool false); refine (waiting_f B F5 st5 _ (TT.out.p.below (btr k1 (btr k2 (btr k3 (btr k4 (btr k5 k6))))))).mono ?_; rintro r z7 ⟨o7, c7, rfl, at7, k7⟩)
          | (go_at_call_of 18 (Value.slice oq st5.rcv.length cq); refine (same_any o7 oq st5.rcv c7 cq _ at7 (AQ.out.below (btr k1 (btr k2 (btr k3 (btr k4 (btr k5 (btr k6 k7))))))) lQ).mono ?_; rintro r z8 ⟨rfl, k8⟩))
      have T8 := hide (TT.out.below (btr k1 (btr k2 (btr k3 (btr k4 (btr k5 (btr k6 (btr k7 k8))))))))
      clear k1 k2 k3 k4 k5 k6 k7 k8 at5 at7
      go_wp2_with fail
      go_roundw
      case rel => exact ⟨k + 1, F5, R5, st5, by omega, by go_num, HS5.out, T8.out⟩
      case measure => simp [intOf]; omega
    · have hlt' : ¬ ((k : Int) < (l.length : Int)) := by omega
      go_wp2_with fail
      refine (hands_any _).mono ?_
      rintro r w8 ⟨rfl, b8⟩
      have B8 := hide (btr T3.out.b b8)
      clear b8
      go_wp2_with fail
      go_ret
      exact ⟨rfl, B8.out⟩

/-! ### the row -/
set_option maxRecDepth 100000 in
theorem lifted (os : Os) (started : os.Started) (H : Type) (enc : TypeId × Value → H) :
    ReturnsInHanded {} Try.checked os 3 .any (Rows.pipeStepsSpec.pre6 enc Try.prog Try.f3 Rows.pipeStepsRow.domain false) (Rows.pipeStepsSpec.post enc Try.prog Try.f3 false true false false) := by
  refine returnsInHanded_of_change (C := Try.checked) own started (by kernel_rfl) Try.func3
    (ChangeSpec.witness6 (enc := enc) (C := Try.checked) false ⟨#[], #[.int .i64 0, .slice none 0 0], []⟩ 8 (by kernel_rfl) (by kernel_rfl) (by kernel_rfl) (by kernel_rfl)) ?_
  intro W base args ds gs before hval0 hW hcnd _
  have hval : ∀ (j : Nat) t v, Try.f3.params[j]? = some t → args[j]? = some v → Value.okWide Try.prog W .any base t v := hval0
  have hW' := hW
  obtain ⟨p, q, hA0, hV, rfl, hfz, hnd⟩ := hW
  have hA : DataW.TrodAll enc Try.prog W 0 (fun _ => true) true Try.f3.params.toList args.toList ds p := hA0
  rw [Try.params3] at hA hval
  obtain ⟨v0, vs0, d0, ds0, p0, q0, hargs, rfl, rfl, h0, r0⟩ := trodAll_cons hA
  obtain ⟨v1, vs1, d1, ds1, p1, q1, rfl, rfl, rfl, h1, r1⟩ := trodAll_cons r0
  obtain ⟨rfl, rfl, rfl⟩ := trodAll_nil r1
  obtain rfl : args = #[v0, v1] := by cases args; simp_all
  obtain ⟨rfl, rfl⟩ := trodVars_none hV
  obtain ⟨a0, rfl, rfl, rfl, w0⟩ := open_int Try.underlying3 (hval 0 3 v0 rfl rfl) h0
  obtain ⟨oa1, n1, c1, rfl⟩ := okWide_slice Try.underlying22 (hval 1 22 v1 rfl rfl)
  have k1 := h1
  have lt1 : ∀ x ∈ p1, x.block < W.heap.size := by obtain ⟨m, hm⟩ := k1; exact DataW.trod_lt m _ _ _ hm
  obtain ⟨l1, rfl, A1, C1, M1⟩ := h1.elim fun _ hf => steps_open hf
  clear hA0 hval0
  refine (core (w := W) a0 oa1 l1 c1 A1 (Nat.le_trans C1 M1)).mono fun e W' ⟨he, bel⟩ => ?_
  subst he
  exact ⟨_, rfl, _, _, _, [], _, [], hW', trodAll_mk1 (shut_bool Try.underlying4 _), (trodAll_cons_mk (shut_int Try.underlying3 w0) (trodAll_cons_mk (Below.trod laidOut (by kernel_rfl) (of_decide_eq_true (by kernel_rfl)) k1 bel lt1) trodAll_mk0)), rfl, bel.frame _, fun h => by cases h⟩

theorem over : Rows.pipeStepsRow.holds Try.pinned (OpenSpec.ofChange Rows.pipeStepsSpec) :=
  OpenClaim.holds_of_wide 3 Try.f3 rfl rfl rfl rfl rfl rfl rfl ⟨rfl, rfl, rfl, rfl, rfl⟩ rfl rfl rfl rfl rfl (by kernel_rfl) Try.func3 (by kernel_rfl)
    (of_decide_eq_true (by kernel_rfl)) (by unfold Func.isWrapper; first | (rw [if_pos (by decide +kernel)]; kernel_rfl) | (rw [if_neg (by decide +kernel)]; exact ⟨rfl, rfl⟩))
    (fun os started H enc _ => lifted os started H enc)

/-- the statement -/
theorem proved : Rows.PipeStepsSaid := over
#print axioms proved
end Go.Proofs.Ytapabnakbaoijaa.pipeSteps
