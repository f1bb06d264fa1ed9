/- What comes later changes nothing that was: of each trace of up to 50 events, and each beginning of it in which no service is missing. -/
import Derived.Test.YtblfimobiibmjabGreatZjAx16
import Derived.Deep.Cut
import Derived.Deep.QuietTactic
import Derived.BigQuiet
import Derived.ShutString
import Derived.ChangeOld
import Derived.Below
namespace Go.Proofs.YtblfimobiibmjabGreat.axiomGrows
open Go.ChangeShapes Go.WideShapes Go.ChangeAt Go.RowKit
open Go.ChangeMaps (open_string shut_string)
open Ax Eg En Ba

theorem own : ownKnob Tryz.prog.godebug = none := by kernel_rfl
theorem laidOut : laidOutB Tryz.prog = true := by kernel_rfl

theorem mwh {w : World} {M R W : Nat} {l : List Ev} (T : Mx.MW w M R W l.length (ahd l)) {i k : Nat} (hi : i < l.length) (hk : k < l.length) :
    Calls Tryz.prog 8 #[.pointer (some ⟨M, 0, none⟩), .int .i64 (i : Int), .int .i64 (k : Int)] w fun e w' => e = .returned (.bool (Ax.hA l i k)) ∧ ∃ q, w' = w.drewN q := by
  refine (Mx.has_any T (i : Int) (k : Int)).mono ?_
  rintro e w' ⟨rfl, q⟩
  exact ⟨by rw [hsI_in hk hi]; rfl, q⟩
theorem es_take {w : World} {oa : Option Addr} {l : List Ev} (h : Gu.EsAt w oa l) (n : Nat) : Gu.EsAt w oa (l.take n) := fun k e he => h k e (take_some he).2
set_option maxRecDepth 100000 in
set_option maxHeartbeats 3200000 in
theorem big {w : World} (oa : Option Addr) (n c : Nat) (m : Int) (hm : n ≤ maxLen) (h : 50 < n) :
    Calls Tryz.prog 5 #[.slice oa n c, .int .i64 m] w fun e w' => e = .returned (.bool true) ∧ Below w.heap.size w w' := by
  unfold maxLen at hm
  have FV := Ba.hide (write_any w)
  have d1 : decide ((50 : Int) < (n : Int)) = true := by simp; omega
  have d2 : decide (50 < n) = true := by simp; omega
  go_enter Tryz.func5, Tryz.ntmps5
  go_wp2_with fail
  refine FV.out.mono ?_
  rintro r w1 ⟨rfl, b1⟩
  have B1 := Ba.hide b1
  clear b1
  go_wp2_with fail
  go_ret
  exact ⟨rfl, B1.out⟩
set_option maxRecDepth 100000 in
set_option maxHeartbeats 3200000 in
theorem low {w : World} (oa : Option Addr) (n c : Nat) (m : Int) (h : n ≤ 50) (h1 : m < 0 ∨ (n : Int) < m) :
    Calls Tryz.prog 5 #[.slice oa n c, .int .i64 m] w fun e w' => e = .returned (.bool true) ∧ Below w.heap.size w w' := by
  have FV := Ba.hide (write_any w)
  have d1 : decide ((50 : Int) < (n : Int)) = false := by simp; omega
  have d2 : decide (50 < n) = false := by simp; omega
  by_cases h2 : m < 0
  · clear h1
    go_enter Tryz.func5, Tryz.ntmps5
    go_wp2_with fail
    refine FV.out.mono ?_
    rintro r w1 ⟨rfl, b1⟩
    have B1 := Ba.hide b1
    clear b1
    go_wp2_with fail
    go_ret
    exact ⟨rfl, B1.out⟩
  · have h3 : (n : Int) < m := by omega
    have h2' : decide (m < 0) = false := by simp; omega
    clear h1
    go_enter Tryz.func5, Tryz.ntmps5
    go_wp2_with fail
    refine FV.out.mono ?_
    rintro r w1 ⟨rfl, b1⟩
    have B1 := Ba.hide b1
    clear b1
    go_wp2_with fail
    go_ret
    exact ⟨rfl, B1.out⟩
set_option maxRecDepth 100000 in
set_option maxHeartbeats 6400000 in
theorem serv {w : World} (b o : Nat) (l : List Ev) (c m : Nat) (e : Ev) (hA : Gu.EsAt w (some ⟨b, o, none⟩) l) (h : l.length ≤ 50) (he : l[m]? = some e) (h0 : 0 ≤ e.m) (hk : e.k = 3 ∨ e.k = 4) :
    Calls Tryz.prog 5 #[.slice (some ⟨b, o, none⟩) l.length c, .int .i64 ((m : Int) + 1)] w fun e w' => e = .returned (.bool true) ∧ Below w.heap.size w w' := by
  have FV := Ba.hide (write_any w)
  obtain ⟨p0, -, -, -, -, p5, -⟩ := hA.read he
  have hml := lt_get he
  generalize l.length = n at *
  have d1 : decide ((50 : Int) < (n : Int)) = false := by simp; omega
  have d2 : decide (50 < n) = false := by simp; omega
  have n1 : ¬ ((m : Int) + 1 < 0) := by omega
  have n2 : ¬ ((n : Int) < (m : Int) + 1) := by omega
  have n3 : (0 : Int) < (m : Int) + 1 := by omega
  have n4 : IntKind.i64.wrap ((m : Int) + 1 - 1) = (m : Int) := by rw [IntKind.wrap_i64]; omega
  have n5 : (0 : Int) ≤ (m : Int) := by omega
  have n6 : (m : Int) < (n : Int) := by omega
  obtain ⟨k, g, cc, a, v, mm, s, q⟩ := e
  simp only at p0 p5 h0 hk
  clear hA he
  by_cases k3 : k = 3
  · have dk : (k == 3) = true := by simp [k3]
    clear hk k3
    go_enter Tryz.func5, Tryz.ntmps5
    go_wp2_with fail
    refine FV.out.mono ?_
    rintro r w1 ⟨rfl, b1⟩
    have B1 := Ba.hide b1
    clear b1
    go_wp2_with fail
    go_ret
    exact ⟨rfl, B1.out⟩
  · have dk : (k == 3) = false := by simp [k3]
    have dk4 : (k == 4) = true := by simp; omega
    clear hk k3
    go_enter Tryz.func5, Tryz.ntmps5
    go_wp2_with fail
    refine FV.out.mono ?_
    rintro r w1 ⟨rfl, b1⟩
    have B1 := Ba.hide b1
    clear b1
    go_wp2_with fail
    go_ret
    exact ⟨rfl, B1.out⟩
/-- what the guard lets through -/
def Let (l : List Ev) (N : Nat) : Prop := ∀ m e, N = m + 1 → l[m]? = some e → ¬ (0 ≤ e.m ∧ (e.k = 3 ∨ e.k = 4))
set_option maxRecDepth 100000 in
set_option maxHeartbeats 25600000 in
theorem none_ {w : World} (oa : Option Addr) (l : List Ev) (c N : Nat) (hA : Gu.EsAt w oa l) (hc : l.length ≤ c) (hb : l.length ≤ 50) (hN : N ≤ l.length) (LT : Let l N) (ht : tokB l = false) :
    Calls Tryz.prog 5 #[.slice oa l.length c, .int .i64 (N : Int)] w fun e w' => e = .returned (.bool true) ∧ Below w.heap.size w w' := by
  have FV := Ba.hide (fun u => write_any u)
  have lN : (l.take N).length = N := by rw [List.length_take]; omega
  have C1 := Ba.hide (ahead_no oa l c w hA (by omega) ht)
  have C2 := Ba.hide (fun u (b : Below w.heap.size w u) => (show Calls Tryz.prog 7 #[.slice oa N c] u fun r w' => ∃ p q, r = .returned (.tuple #[.pointer p, .int .i64 q]) ∧ Below u.heap.size u w' by
    cases q : tokB (l.take N)
    · have h := ahead_no oa (l.take N) c u (es_take (hA.below b) N) (by omega) q
      rw [lN] at h
      exact h.mono fun r w' ⟨e, b⟩ => ⟨none, 4, e, b⟩
    · have h := ahead_yes oa (l.take N) c u (es_take (hA.below b) N) (by omega) q
      rw [lN] at h
      exact h.mono fun r w' ⟨P, _, _, e, _, b⟩ => ⟨some ⟨P, 0, none⟩, 0, e, b⟩))
  have GU : N = 0 ∨ (∃ m e, N = m + 1 ∧ l[m]? = some e ∧ e.m < 0) ∨ ∃ m e, N = m + 1 ∧ l[m]? = some e ∧ 0 ≤ e.m ∧ e.k ≠ 3 ∧ e.k ≠ 4 := by
    rcases N with _ | m
    · exact .inl rfl
    · obtain ⟨e, he⟩ := get_lt (l := l) (i := m) (by omega)
      by_cases q : e.m < 0
      · exact .inr (.inl ⟨m, e, rfl, he, q⟩)
      · exact .inr (.inr ⟨m, e, rfl, he, by omega, fun z => LT m e rfl he ⟨by omega, .inl z⟩, fun z => LT m e rfl he ⟨by omega, .inr z⟩⟩)
  obtain ⟨M, hM⟩ : ∃ M, l.length = M := ⟨_, rfl⟩
  rw [hM] at C1 hb hc hN ⊢
  have d1 : decide ((50 : Int) < (M : Int)) = false := by simp; omega
  have d2 : decide (50 < M) = false := by simp; omega
  have n1 : ¬ ((N : Int) < 0) := by omega
  have n2 : ¬ ((M : Int) < (N : Int)) := by omega
  have n8 : (0 : Int) ≤ (N : Int) := by omega
  have n9 : (N : Int) ≤ (c : Int) := by omega
  clear ht hM lN LT
  rcases GU with g0 | ⟨m, e, g0, g1, g2⟩ | ⟨m, e, g0, g1, g2, g3, g4⟩
  case' inl =>
    have n3 : ¬ ((0 : Int) < (N : Int)) := by omega
    clear g0 hA
    go_enter Tryz.func5, Tryz.ntmps5
    go_wp2_with fail
  case' inr.inl =>
    obtain ⟨b0, o0, rfl, -⟩ := hA m e g1
    obtain ⟨-, -, -, -, -, p5, -⟩ := hA.read g1
    have n3 : (0 : Int) < (N : Int) := by omega
    have n4 : IntKind.i64.wrap ((N : Int) - 1) = (m : Int) := by rw [IntKind.wrap_i64]; omega
    have n5 : (0 : Int) ≤ (m : Int) := by omega
    have n6 : (m : Int) < (M : Int) := by omega
    have n7 : ¬ (0 ≤ e.m) := by omega
    clear g0 g1 g2 hA
    go_enter Tryz.func5, Tryz.ntmps5
    go_wp2_with fail
  case' inr.inr =>
    obtain ⟨b0, o0, rfl, -⟩ := hA m e g1
    obtain ⟨p0, -, -, -, -, p5, -⟩ := hA.read g1
    have n3 : (0 : Int) < (N : Int) := by omega
    have n4 : IntKind.i64.wrap ((N : Int) - 1) = (m : Int) := by rw [IntKind.wrap_i64]; omega
    have n5 : (0 : Int) ≤ (m : Int) := by omega
    have n6 : (m : Int) < (M : Int) := by omega
    have k3 : (e.k == 3) = false := by simpa using g3
    have k4 : (e.k == 4) = false := by simpa using g4
    clear g0 g1 g3 g4 hA
    go_enter Tryz.func5, Tryz.ntmps5
    go_wp2_with fail
  all_goals
    refine C1.out.mono ?_
    rintro r w1 ⟨rfl, b1⟩
    have B1 := Ba.hide b1
    have C3 := Ba.hide (C2.out w1 b1)
    clear b1 C1
    go_wp2_with fail
    refine C3.out.mono ?_
    rintro r w2 ⟨p, q, rfl, b2⟩
    have B2 := Ba.hide (Ba.btr B1.out b2)
    clear b2
    go_wp2_with fail
    refine (FV.out _).mono ?_
    rintro r w3 ⟨rfl, b3⟩
    have B3 := Ba.hide (Ba.btr B2.out b3)
    clear b3
    go_wp2_with fail
    go_ret
    exact ⟨rfl, B3.out⟩
set_option maxRecDepth 100000 in
set_option maxHeartbeats 51200000 in
theorem some_ {w : World} (oa : Option Addr) (l : List Ev) (c N : Nat) (hA : Gu.EsAt w oa l) (hc : l.length ≤ c) (hb : l.length ≤ 50) (hN : N ≤ l.length) (LT : Let l N) (ht : tokB l = true) :
    Calls Tryz.prog 5 #[.slice oa l.length c, .int .i64 (N : Int)] w fun e w' => e = .returned (.bool true) ∧ Below w.heap.size w w' := by
  have FV := Ba.hide (fun u => write_any u)
  have lN : (l.take N).length = N := by rw [List.length_take]; omega
  have hT := tokB_iff.1 ht
  have ht2 : tokB (l.take N) = true := tokB_iff.2 (hT.take N)
  have C1 := Ba.hide (ahead_yes oa l c w hA (by omega) ht)
  have C2 := Ba.hide (fun u (b : Below w.heap.size w u) => ahead_yes oa (l.take N) c u (es_take (hA.below b) N) (by omega) ht2)
  have F1 := Ba.hide (fun (i : Int) u (b : Below w.heap.size w u) => first_yes oa l c i u (hA.below b) (by omega) ht)
  have F2 := Ba.hide (fun (i : Int) u (b : Below w.heap.size w u) => first_yes oa (l.take N) c i u (es_take (hA.below b) N) (by omega) ht2)
  have NS : NoS l N := fun m e h1 h2 h3 => by
    have := LT m e h1 h2
    unfold Gu.moves at h3
    simp at h3
    omega
  have GR : ∀ i k : Nat, i < N → k < N → Ax.hA l i k = Ax.hA (l.take N) i k := fun i k hi hk => by
    have := (rel_is hT).grows hT hN NS (rel_is (hT.take N)) hi hk
    unfold Ax.hA ahd
    rw [lN]
    exact this
  have FG : Hid (∀ i : Nat, i < 8 → firA (l.take N) (i : Int) = match firA l (i : Int) with
      | some a => if a < N then some a else none
      | none => none) := by
    intro i hi
    have q : cellB8 (i : Int) = true := by unfold cellB8; simp; omega
    unfold firA
    rw [q, if_pos rfl, if_pos rfl, lN]
    exact fir_grows hN GR
  have CE : Hid (∀ i : Nat, i < 8 → cellE (i : Int) = 0) := by
    intro i hi
    have q : cellB8 (i : Int) = true := by unfold cellB8; simp; omega
    unfold cellE
    rw [q]
    rfl
  have H1 := Ba.hide (fun (i k : Nat) (hi : i < l.length) (hk : k < l.length) (u : World) (P R W : Nat) (m : Mx.MW u P R W l.length (ahd l)) => mwh m hi hk)
  have H2 := Ba.hide (fun (i k : Nat) (hi : i < (l.take N).length) (hk : k < (l.take N).length) (u : World) (P R W : Nat) (m : Mx.MW u P R W (l.take N).length (ahd (l.take N))) => mwh m hi hk)
  have GR := Ba.hide GR
  rw [lN] at C2 F2 H2
  have GU : N = 0 ∨ (∃ m e, N = m + 1 ∧ l[m]? = some e ∧ e.m < 0) ∨ ∃ m e, N = m + 1 ∧ l[m]? = some e ∧ 0 ≤ e.m ∧ e.k ≠ 3 ∧ e.k ≠ 4 := by
    rcases N with _ | m
    · exact .inl rfl
    · obtain ⟨e, he⟩ := get_lt (l := l) (i := m) (by omega)
      by_cases q : e.m < 0
      · exact .inr (.inl ⟨m, e, rfl, he, q⟩)
      · exact .inr (.inr ⟨m, e, rfl, he, by omega, fun z => LT m e rfl he ⟨by omega, .inl z⟩, fun z => LT m e rfl he ⟨by omega, .inr z⟩⟩)
  obtain ⟨M, hM⟩ : ∃ M, l.length = M := ⟨_, rfl⟩
  rw [hM] at C1 F1 H1 hb hc hN ⊢
  have d1 : decide ((50 : Int) < (M : Int)) = false := by simp; omega
  have d2 : decide (50 < M) = false := by simp; omega
  have n1 : ¬ ((N : Int) < 0) := by omega
  have n2 : ¬ ((M : Int) < (N : Int)) := by omega
  have n8 : (0 : Int) ≤ (N : Int) := by omega
  have n9 : (N : Int) ≤ (c : Int) := by omega
  have hN2 := Ba.hide hN
  clear ht ht2 hM lN LT NS hT
  rcases GU with g0 | ⟨m, e, g0, g1, g2⟩ | ⟨m, e, g0, g1, g2, g3, g4⟩
  case' inl =>
    have n3 : ¬ ((0 : Int) < (N : Int)) := by omega
    clear g0 hA
    go_enter Tryz.func5, Tryz.ntmps5
    go_wp2_with fail
  case' inr.inl =>
    obtain ⟨b0, o0, rfl, -⟩ := hA m e g1
    obtain ⟨-, -, -, -, -, p5, -⟩ := hA.read g1
    have n3 : (0 : Int) < (N : Int) := by omega
    have n4 : IntKind.i64.wrap ((N : Int) - 1) = (m : Int) := by rw [IntKind.wrap_i64]; omega
    have n5 : (0 : Int) ≤ (m : Int) := by omega
    have n6 : (m : Int) < (M : Int) := by omega
    have n7 : ¬ (0 ≤ e.m) := by omega
    clear g0 g1 g2 hA
    go_enter Tryz.func5, Tryz.ntmps5
    go_wp2_with fail
  case' inr.inr =>
    obtain ⟨b0, o0, rfl, -⟩ := hA m e g1
    obtain ⟨p0, -, -, -, -, p5, -⟩ := hA.read g1
    have n3 : (0 : Int) < (N : Int) := by omega
    have n4 : IntKind.i64.wrap ((N : Int) - 1) = (m : Int) := by rw [IntKind.wrap_i64]; omega
    have n5 : (0 : Int) ≤ (m : Int) := by omega
    have n6 : (m : Int) < (M : Int) := by omega
    have k3 : (e.k == 3) = false := by simpa using g3
    have k4 : (e.k == 4) = false := by simpa using g4
    clear g0 g1 g3 g4 hA
    go_enter Tryz.func5, Tryz.ntmps5
    go_wp2_with fail
  all_goals
    refine C1.out.mono ?_
    rintro r w1 ⟨P, R, W, rfl, m1, b1⟩
    have B1 := Ba.hide b1
    have M1 := Ba.hide m1
    have C3 := Ba.hide (C2.out w1 b1)
    clear b1 C1 m1 C2
    go_wp2_with fail
    refine C3.out.mono ?_
    rintro r w2 ⟨P2, R2, W2, rfl, m2, b2⟩
    have B2 := Ba.hide (Ba.btr B1.out b2)
    have M2 := Ba.hide m2
    have M1 := Ba.hide (M1.out.below b2)
    clear b2 m2 C3
    go_wp2_with fail
    go_loopw [9] (fun iv wr => ∃ i : Nat, i ≤ N ∧ iv = .int .i64 (i : Int) ∧ Below w2.heap.size w2 wr) (fun iv _ => N - (intOf iv).toNat)
    case atStart => exact ⟨0, by omega, rfl, Below.refl _ _⟩
    case round =>
      obtain ⟨i, hi, rfl, bl⟩ := hrel
      have BL := Ba.hide bl
      by_cases hlt : i < N
      · have hlt' : (i : Int) < (N : Int) := by omega
        clear bl
        go_wp2_with fail
        go_loopw [10] (fun iv w6 => ∃ k : Nat, k ≤ N ∧ iv = .int .i64 (k : Int) ∧ Below w2.heap.size w2 w6) (fun iv _ => N - (intOf iv).toNat)
        case atStart => exact ⟨0, by omega, rfl, BL.out⟩
        case round =>
          rename World => w6
          obtain ⟨k, hk, rfl, b6⟩ := hrel
          have B6 := Ba.hide b6
          by_cases hlk : k < N
          · have hlk' : (k : Int) < (N : Int) := by omega
            have G1 := Ba.hide (H1.out i k (Nat.lt_of_lt_of_le hlt hN2.out) (Nat.lt_of_lt_of_le hlk hN2.out) w6 P R W (M1.out.below b6))
            have G2 := Ba.hide (fun nq => H2.out i k hlt hlk (w6.drewN nq) P2 R2 W2 (M2.out.below (Ba.btr b6 (Ba.bdrew w6 nq))))
            rw [GR.out i k hlt hlk] at G1
            obtain ⟨z, hz⟩ : ∃ z, Ax.hA (l.take N) i k = z := ⟨_, rfl⟩
            rw [hz] at G1 G2
            clear b6 hz
            go_wp2_with fail
            refine G1.out.mono ?_
            rintro r u ⟨rfl, n1', rfl⟩
            have G22 := Ba.hide (G2.out n1')
            go_wp2_with fail
            refine G22.out.mono ?_
            rintro r u ⟨rfl, n2', rfl⟩
            go_wp2_with fail
            go_roundw
            case measure => simp [intOf]; omega
            case rel => exact ⟨k + 1, by omega, by simp, Ba.btr B6.out (Ba.bdrew w6 (n1' + n2'))⟩
          · obtain rfl : k = N := by omega
            clear b6
            go_wp2_with fail
            go_roundw
            case measure => simp [intOf]; omega
            case rel => exact ⟨i + 1, by omega, by simp, B6.out⟩
      · obtain rfl : i = N := by omega
        clear bl
        go_wp2_with fail
        go_loopw [11] (fun iv w6 => ∃ q : Nat, q ≤ 8 ∧ iv = .int .i64 (q : Int) ∧ Below w2.heap.size w2 w6) (fun iv _ => 8 - (intOf iv).toNat)
        case atStart => exact ⟨0, by omega, rfl, BL.out⟩
        case round =>
          rename World => w6
          obtain ⟨q, hq, rfl, b6⟩ := hrel
          have B6 := Ba.hide b6
          by_cases hlq : q < 8
          · have hlq' : (q : Int) < 8 := by omega
            have FF := FG.out q hlq
            have X1 := F1.out (q : Int) w6 (Ba.btr B2.out b6)
            have X2 := Ba.hide (fun u b => F2.out (q : Int) u b)
            rw [CE.out q hlq] at X1 X2
            rw [FF] at X2
            have X1 := Ba.hide X1
            clear b6 FF
            cases hf : firA l (q : Int) with
            | none =>
              rw [hf] at X1 X2
              go_wp2_with fail
              refine X1.out.mono ?_
              rintro r w7 ⟨rfl, b7⟩
              have B7 := Ba.hide (Ba.btr B6.out b7)
              have X3 := Ba.hide (X2.out w7 (Ba.btr B2.out B7.out))
              clear b7
              go_wp2_with fail
              refine X3.out.mono ?_
              rintro r w8 ⟨rfl, b8⟩
              have B8 := Ba.hide (Ba.btr B7.out b8)
              clear b8
              go_wp2_with fail
              go_roundw
              case measure => simp [intOf]; omega
              case rel => exact ⟨q + 1, by omega, by simp, B8.out⟩
            | some a =>
              rw [hf] at X1 X2
              by_cases ha : a < i
              · simp only [if_pos ha] at X2
                have ha' : (a : Int) < (i : Int) := by omega
                have X1 : Hid (Calls Tryz.prog 11 _ w6 fun r w' => r = .returned (.tuple #[.int .i64 (a : Int), .bool true, .int .i64 0]) ∧ Below w6.heap.size w6 w') := X1
                have X2 : Hid (∀ u, Below w.heap.size w u → Calls Tryz.prog 11 _ u fun r w' => r = .returned (.tuple #[.int .i64 (a : Int), .bool true, .int .i64 0]) ∧ Below u.heap.size u w') := X2
                go_wp2_with fail
                refine X1.out.mono ?_
                rintro r w7 ⟨rfl, b7⟩
                have B7 := Ba.hide (Ba.btr B6.out b7)
                have X3 := Ba.hide (X2.out w7 (Ba.btr B2.out B7.out))
                clear b7
                go_wp2_with fail
                refine X3.out.mono ?_
                rintro r w8 ⟨rfl, b8⟩
                have B8 := Ba.hide (Ba.btr B7.out b8)
                clear b8
                go_wp2_with fail
                go_roundw
                case measure => simp [intOf]; omega
                case rel => exact ⟨q + 1, by omega, by simp, B8.out⟩
              · simp only [if_neg ha] at X2
                have ha' : ¬ ((a : Int) < (i : Int)) := by omega
                have X1 : Hid (Calls Tryz.prog 11 _ w6 fun r w' => r = .returned (.tuple #[.int .i64 (a : Int), .bool true, .int .i64 0]) ∧ Below w6.heap.size w6 w') := X1
                go_wp2_with fail
                refine X1.out.mono ?_
                rintro r w7 ⟨rfl, b7⟩
                have B7 := Ba.hide (Ba.btr B6.out b7)
                have X3 := Ba.hide (X2.out w7 (Ba.btr B2.out B7.out))
                clear b7
                go_wp2_with fail
                refine X3.out.mono ?_
                rintro r w8 ⟨rfl, b8⟩
                have B8 := Ba.hide (Ba.btr B7.out b8)
                clear b8
                go_wp2_with fail
                go_roundw
                case measure => simp [intOf]; omega
                case rel => exact ⟨q + 1, by omega, by simp, B8.out⟩
          · obtain rfl : q = 8 := by omega
            clear b6
            go_wp2_with fail
            refine (FV.out _).mono ?_
            rintro r w7 ⟨rfl, b7⟩
            have B7 := Ba.hide (Ba.btr B2.out (Ba.btr B6.out b7))
            clear b7
            go_wp2_with fail
            go_ret
            exact ⟨rfl, B7.out⟩
theorem core {w : World} (oa : Option Addr) (l : List Ev) (c : Nat) (hA : Gu.EsAt w oa l ∧ l.length ≤ c) (hm : l.length ≤ maxLen) (n : Int) :
    Calls Tryz.prog 5 #[.slice oa l.length c, .int .i64 n] w fun e w' => e = .returned (.bool true) ∧ Below w.heap.size w w' := by
  by_cases hb : 50 < l.length
  · exact big oa l.length c n hm hb
  obtain ⟨hA, hc⟩ := hA
  by_cases h1 : n < 0 ∨ (l.length : Int) < n
  · exact low oa l.length c n (by omega) h1
  obtain ⟨N, rfl⟩ : ∃ N : Nat, n = (N : Int) := ⟨n.toNat, by omega⟩
  by_cases LT : Let l N
  · cases ht : tokB l
    · exact none_ oa l c N hA hc (by omega) (by omega) LT ht
    · exact some_ oa l c N hA hc (by omega) (by omega) LT ht
  · unfold Let at LT
    simp only [Classical.not_forall, Classical.not_not] at LT
    obtain ⟨m, e, rfl, he, h2, h3⟩ := LT
    obtain ⟨b, o, rfl, -⟩ := hA m e he
    exact serv b o l c m e hA (by omega) he h2 h3

/-! ### the row -/
set_option maxRecDepth 100000 in
theorem lifted (os : Os) (started : os.Started) (H : Type) (enc : TypeId × Value → H) :
    ReturnsInHanded {} Tryz.checked os 5 .any (Rows.axiomGrowsSpec.pre6 enc Tryz.prog Tryz.f5 Rows.axiomGrowsRow.domain false) (Rows.axiomGrowsSpec.post enc Tryz.prog Tryz.f5 false true false false) := by
  refine returnsInHanded_of_change (C := Tryz.checked) own started (by kernel_rfl) Tryz.func5
    (ChangeSpec.witness6 (enc := enc) (C := Tryz.checked) false ⟨#[], #[.slice none 0 0, .int .i64 0], []⟩ 8 (by kernel_rfl) (by kernel_rfl) (by kernel_rfl) (by kernel_rfl)) ?_
  intro W base args ds gs before hval0 hW hcnd _
  have hval : ∀ (j : Nat) t v, Tryz.f5.params[j]? = some t → args[j]? = some v → Value.okWide Tryz.prog W .any base t v := hval0
  have hW' := hW
  obtain ⟨p, q, hA0, hV, rfl, hfz, hnd⟩ := hW
  have hA : DataW.TrodAll enc Tryz.prog W 0 (fun _ => true) true Tryz.f5.params.toList args.toList ds p := hA0
  rw [Tryz.params5] at hA hval
  obtain ⟨v0, vs0, d0, ds0, p0, q0, hargs, rfl, rfl, h0, r0⟩ := trodAll_cons hA
  obtain ⟨v1, vs1, d1, ds1, p1, q1, rfl, rfl, rfl, h1, r1⟩ := trodAll_cons r0
  obtain ⟨rfl, rfl, rfl⟩ := trodAll_nil r1
  obtain rfl : args = #[v0, v1] := by cases args; simp_all
  obtain ⟨rfl, rfl⟩ := trodVars_none hV
  obtain ⟨oa0, n0, c0, rfl⟩ := okWide_slice Tryz.underlying22 (hval 0 22 v0 rfl rfl)
  have k0 := h0
  have lt0 : ∀ x ∈ p0, x.block < W.heap.size := by obtain ⟨m, hm⟩ := k0; exact DataW.trod_lt m _ _ _ hm
  obtain ⟨l0, rfl, A0, C0, M0⟩ := h0.elim fun _ hf => Gu.events_openC hf
  obtain ⟨a1, rfl, rfl, rfl, w1⟩ := open_int Tryz.underlying3 (hval 1 3 v1 rfl rfl) h1
  clear hA0 hval0
  refine (core (w := W) oa0 l0 c0 A0 (Nat.le_trans C0 M0) a1).mono fun e W' ⟨he, bel⟩ => ?_
  subst he
  exact ⟨_, rfl, _, _, _, [], _, [], hW', trodAll_mk1 (shut_bool Tryz.underlying4 _), (trodAll_cons_mk (Below.trod laidOut (by kernel_rfl) (of_decide_eq_true (by kernel_rfl)) k0 bel lt0) (trodAll_cons_mk (shut_int Tryz.underlying3 w1) trodAll_mk0)), rfl, bel.frame _, fun h => by cases h⟩

theorem over : Rows.axiomGrowsRow.holds Tryz.pinned (OpenSpec.ofChange Rows.axiomGrowsSpec) :=
  OpenClaim.holds_of_wide 5 Tryz.f5 rfl rfl rfl rfl rfl rfl rfl ⟨rfl, rfl, rfl, rfl, rfl⟩ rfl rfl rfl rfl rfl (by kernel_rfl) Tryz.func5 (by kernel_rfl)
    (of_decide_eq_true (by kernel_rfl)) (by unfold Func.isWrapper; first | (rw [if_pos (by decide +kernel)]; kernel_rfl) | (rw [if_neg (by decide +kernel)]; exact ⟨rfl, rfl⟩))
    (fun os started H enc _ => lifted os started H enc)

/-- the statement -/
theorem proved : Rows.AxiomGrowsSaid := over
#print axioms proved
end Go.Proofs.YtblfimobiibmjabGreat.axiomGrows
