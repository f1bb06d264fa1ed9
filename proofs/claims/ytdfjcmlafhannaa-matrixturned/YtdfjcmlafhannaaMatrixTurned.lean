/- Every n and pairs: MatrixTurned answers true: the closure of a relation that is turned around is its closure, turned around. -/
import Derived.Test.YtdfjcmlafhannaaNb6
import Derived.Test.YtdfjcmlafhannaaBo
import Derived.ShutString
import Derived.ChangeOld
import Derived.Below
namespace Go.Proofs.Ytdfjcmlafhannaa.matrixTurned
open Go.ChangeShapes Go.WideShapes Go.ChangeAt Go.RowKit
open Go.ChangeMaps (open_string shut_string)
open Mx

theorem own : ownKnob Try.prog.godebug = none := by kernel_rfl
theorem laidOut : laidOutB Try.prog = true := by kernel_rfl

set_option maxRecDepth 100000 in
set_option maxHeartbeats 1600000 in
theorem small {w : World} (n : Int) (oa : Option Addr) (len c : Nat) (hm : len ≤ maxLen) (h : n < 0 ∨ 60 < n ∨ 200 < len) :
    Calls Try.prog 7 #[.int .i64 n, .slice oa len c] w fun e w' => e = .returned (.bool true) ∧ Below w.heap.size w w' := by
  unfold maxLen at hm
  have TH := Mx.hide (three_any w)
  have key : ∀ a b d : Bool, decide (n < 0) = a → decide (60 < n) = b → decide ((200 : Int) < (len : Int)) = d → (a || b || d) = true → Calls Try.prog 7 #[.int .i64 n, .slice oa len c] w fun e w' => e = .returned (.bool true) ∧ Below w.heap.size w w' := by
    intro a b d ha hb hd hab
    have hd2 : decide (200 < len) = d := by rw [← hd, decide_eq_decide]; omega
    cases a
    · cases b
      · cases d
        · cases hab
        · clear h hab
          go_enter Try.func7, Try.ntmps7
          go_wp2_with fail
          refine TH.out.mono ?_
          rintro r w1 ⟨rfl, b1⟩
          have B1 := Mx.hide b1
          clear b1
          go_wp2_with fail
          go_ret
          exact ⟨rfl, B1.out⟩
      · clear h hab
        go_enter Try.func7, Try.ntmps7
        go_wp2_with fail
        refine TH.out.mono ?_
        rintro r w1 ⟨rfl, b1⟩
        have B1 := Mx.hide b1
        clear b1
        go_wp2_with fail
        go_ret
        exact ⟨rfl, B1.out⟩
    · clear h hab
      go_enter Try.func7, Try.ntmps7
      go_wp2_with fail
      refine TH.out.mono ?_
      rintro r w1 ⟨rfl, b1⟩
      have B1 := Mx.hide b1
      clear b1
      go_wp2_with fail
      go_ret
      exact ⟨rfl, B1.out⟩
  refine key _ _ _ rfl rfl rfl ?_
  rcases h with h | h | h
  · simp [h]
  · simp [h]
  · have : (200 : Int) < (len : Int) := by omega
    simp [this]
set_option maxRecDepth 100000 in
set_option maxHeartbeats 3200000 in
theorem core {w : World} (n : Int) (oa : Option Addr) (l : List (Int × Int)) (c : Nat) (hA : PAt w oa l) (hm : l.length ≤ maxLen) :
    Calls Try.prog 7 #[.int .i64 n, .slice oa l.length c] w fun e w' => e = .returned (.bool true) ∧ Below w.heap.size w w' := by
  by_cases hs : n < 0 ∨ 60 < n ∨ 200 < l.length
  · exact small n oa l.length c hm hs
  · obtain ⟨m, rfl⟩ := Int.eq_ofNat_of_zero_le (show 0 ≤ n by omega)
    have hm60 : m ≤ 60 := by omega
    have hl200 : l.length ≤ 200 := by omega
    have a1 : decide ((m : Int) < 0) = false := by simp
    have a2 : decide ((60 : Int) < (m : Int)) = false := by simp; omega
    have a3 : decide ((200 : Int) < (l.length : Int)) = false := by simp; omega
    have a4 : decide (200 < l.length) = false := by simp; omega
    have PA := Mx.hide hA
    have NW := Mx.hide (fun u : World => new_ok m (by omega) u)
    clear hs hA hm
    obtain ⟨N, hN⟩ : ∃ N, w.heap.size = N := ⟨_, rfl⟩
    have HN := Mx.hide hN
    rw [hN]
    go_enter Try.func7, Try.ntmps7
    go_wp2_with fail
    refine (NW.out _).mono ?_
    rintro e w1 ⟨rfl, m1, b1⟩
    rw [hN] at m1 b1 ⊢
    have M1 := Mx.hide m1
    have B1 := Mx.hide b1
    obtain ⟨N2, hN2⟩ : ∃ N2, w1.heap.size = N2 := ⟨_, rfl⟩
    have hNN : N + 2 < N2 := by rw [← hN2]; exact m1.cell_lt
    clear m1 b1 hN
    go_wp2_with fail
    refine (NW.out _).mono ?_
    rintro e w2 ⟨rfl, m2, b2⟩
    rw [hN2] at m2 b2 ⊢
    have M2 := Mx.hide m2
    have M1' := Mx.hide (M1.out.below (by rw [hN2]; exact b2))
    have B2 : Hid (Below N w w2) := B1.out.trans (b2.mono (by omega))
    clear m2 b2 M1 B1 NW hN2
    go_wp2_with fail
    go_loopw [51] (fun s wr => ∃ j : Nat, j ≤ l.length ∧ s = .int .i64 (j : Int) ∧ MW wr (N + 2) (N + 1) N m (sets m no (l.take j)) ∧ MW wr (N2 + 2) (N2 + 1) N2 m (sets m no (sw (l.take j))) ∧ Below N w wr) (fun s _ => l.length - (intOf s).toNat)
    case atStart => exact ⟨0, Nat.zero_le _, rfl, M1'.out, M2.out, B2.out⟩
    case round =>
      obtain ⟨j, hj, rfl, x1, x2, bl⟩ := hrel
      clear M1' M2 B2
      by_cases hlt : j < l.length
      · have hlt' : (j : Int) < (l.length : Int) := by omega
        obtain ⟨p, hp⟩ := pair_lt hlt
        obtain ⟨b, off, rfl, q1, q2⟩ := PA.out.below (by rw [HN.out]; exact bl) j p hp
        have s1 := sets_take (n := m) (r := no) hp
        have s2 := sw_take (n := m) (r := no) hp
        have BA := Ba.below_alloc wr (.cells #[.int .i64 p.1, .int .i64 p.2] 32)
        have hsz : N ≤ wr.heap.size := by have := bl.size; rw [HN.out] at this; exact this
        have hlt1 := x1.cell_lt
        have hlt2 := x2.cell_lt
        have X1 := Mx.hide (x1.below BA)
        have X2 := Mx.hide (x2.below BA)
        have BL : Hid (Below N w (wr.alloc (.cells #[.int .i64 p.1, .int .i64 p.2] 32))) := bl.trans (BA.mono hsz)
        have PC := Mx.hide (Ba.heap_new wr (.cells #[.int .i64 p.1, .int .i64 p.2] 32))
        have S1 := Mx.hide s1
        have S2 := Mx.hide s2
        obtain ⟨p1, p2⟩ := p
        simp only at q1 q2 X1 X2 BL PC S1 S2
        clear x1 x2 bl BA s1 s2 hp
        go_wp2_with fail
        generalize wr.alloc (.cells #[.int .i64 p1, .int .i64 p2] 32) = W1 at *
        obtain ⟨A, hA⟩ : ∃ A, wr.heap.size = A := ⟨_, rfl⟩
        rw [hA] at hlt1 hlt2 hsz PC ⊢
        clear hA
        refine (set_any X1.out p1 p2).mono ?_
        rintro e w3 ⟨rfl, m3, k3⟩
        have M3 : Hid (MW w3 (N + 2) (N + 1) N m (sets m no (l.take (j + 1)))) := by rw [S1.out]; exact m3
        have M4 := Mx.hide (X2.out.kb k3 (by omega) (by omega) (by omega))
        have PC3 := Mx.hide (k3.heap PC.out (by omega))
        have B3 : Hid (Below N w w3) := ⟨k3.os.trans BL.out.os, k3.tape.trans BL.out.tape, k3.output.trans BL.out.output, Nat.le_trans BL.out.size k3.size, fun x hx => (k3.block x (by have := Ba.heap_lt PC.out; omega) (by omega)).trans (BL.out.block x hx)⟩
        have d0 : w3.cell? ⟨A, 0, none⟩ = some (.int .i64 p1) := by rw [Ba.cell_of PC3.out]; rfl
        have d1 : w3.cell? ⟨A, 1, none⟩ = some (.int .i64 p2) := by rw [Ba.cell_of PC3.out]; rfl
        clear m3 k3 X1 X2 BL PC
        go_wp2_with fail
        refine (set_any M4.out p2 p1).mono ?_
        rintro e w4 ⟨rfl, m4, k4⟩
        have M5 : Hid (MW w4 (N2 + 2) (N2 + 1) N2 m (sets m no (sw (l.take (j + 1))))) := by rw [S2.out]; exact m4
        have M6 := Mx.hide (M3.out.kb k4 (by omega) (by omega) (by omega))
        have B4 : Hid (Below N w w4) := ⟨k4.os.trans B3.out.os, k4.tape.trans B3.out.tape, k4.output.trans B3.out.output, Nat.le_trans B3.out.size k4.size, fun x hx => (k4.block x (by have := Ba.heap_lt PC3.out; omega) (by omega)).trans (B3.out.block x hx)⟩
        clear m4 k4 M3 M4 B3 PC3 d0 d1
        go_wp2_with fail
        go_roundw
        case rel => exact ⟨j + 1, by omega, by go_num, M6.out, M5.out, B4.out⟩
        case measure => simp [intOf]; omega
      · have hlt' : ¬ ((j : Int) < (l.length : Int)) := by omega
        have ej : l.take j = l := List.take_of_length_le (by omega)
        rw [ej] at x1 x2
        have X1 := Mx.hide x1
        have X2 := Mx.hide x2
        have BL := Mx.hide bl
        clear x1 x2 bl ej
        go_wp2_with fail
        refine (close_any X1.out).mono ?_
        rintro e w3 ⟨rfl, m3, k3⟩
        have M3 := Mx.hide m3
        have M4 := Mx.hide (X2.out.kb k3 (by omega) (by omega) (by omega))
        have B3 : Hid (Below N w w3) := ⟨k3.os.trans BL.out.os, k3.tape.trans BL.out.tape, k3.output.trans BL.out.output, Nat.le_trans BL.out.size k3.size, fun x hx => (k3.block x (by have := X1.out.cell_lt; omega) (by omega)).trans (BL.out.block x hx)⟩
        clear m3 k3 X1 X2 BL
        go_wp2_with fail
        refine (close_any M4.out).mono ?_
        rintro e w4 ⟨rfl, m4, k4⟩
        have M5 := Mx.hide m4
        have M6 := Mx.hide (M3.out.kb k4 (by omega) (by omega) (by omega))
        have B4 : Hid (Below N w w4) := ⟨k4.os.trans B3.out.os, k4.tape.trans B3.out.tape, k4.output.trans B3.out.output, Nat.le_trans B3.out.size k4.size, fun x hx => (k4.block x (by have := M3.out.cell_lt; omega) (by omega)).trans (B3.out.block x hx)⟩
        have EQ : Hid (∀ i k, i < m → k < m → Mx.hs (clo (sets m no l) m) i k = Mx.hs (clo (sets m no (sw l)) m) k i) := fun i k hi hk => clo_turned _ _ m (fun a b ha hb => sets_turned m l a b ha hb) i k hi hk
        have ET := Mx.hide (total_turned (clo (sets m no l) m) (clo (sets m no (sw l)) m) m m EQ.out)
        clear m4 k4 M3 M4 B3
        generalize clo (sets m no l) m = r1 at *
        generalize clo (sets m no (sw l)) m = r2 at *
        go_wp2_with fail
        rename World => w9
        go_loopw [11] (fun s wr => ∃ i : Nat, i ≤ m ∧ s = .int .i64 (i : Int) ∧ MW wr (N + 2) (N + 1) N m r1 ∧ MW wr (N2 + 2) (N2 + 1) N2 m r2 ∧ Below N w wr) (fun s _ => m - (intOf s).toNat)
        case atStart => exact ⟨0, Nat.zero_le _, rfl, M6.out, M5.out, B4.out⟩
        case round =>
          obtain ⟨i, hi, rfl, x1, x2, bl⟩ := hrel
          have X1 := Mx.hide x1
          have X2 := Mx.hide x2
          have BL := Mx.hide bl
          clear x1 x2 bl M5 M6 B4
          by_cases hlti : i < m
          · have hlti' : (i : Int) < (m : Int) := by omega
            go_wp2_with fail
            rename World => w8
            go_loopw [12] (fun s wr => ∃ k : Nat, k ≤ m ∧ s = .int .i64 (k : Int) ∧ MW wr (N + 2) (N + 1) N m r1 ∧ MW wr (N2 + 2) (N2 + 1) N2 m r2 ∧ Below N w wr) (fun s _ => m - (intOf s).toNat)
            case atStart => exact ⟨0, Nat.zero_le _, rfl, X1.out, X2.out, BL.out⟩
            case round =>
              obtain ⟨k, hk, rfl, x1, x2, bl⟩ := hrel
              clear X1 X2 BL
              have X1 := Mx.hide x1
              have X2 := Mx.hide x2
              have BL := Mx.hide bl
              clear x1 x2 bl
              by_cases hltk : k < m
              · have hltk' : (k : Int) < (m : Int) := by omega
                have H1 := Mx.hide (has_in X1.out i k hlti hltk)
                have H2 := Mx.hide (fun q => has_in (X2.out.drw q) k i hltk hlti)
                rw [← EQ.out i k hlti hltk] at H2
                generalize Mx.hs r1 i k = z at *
                go_wp2_with fail
                refine H1.out.mono ?_
                rintro e w5 ⟨rfl, q5, rfl⟩
                go_wp2_with fail
                refine (H2.out q5).mono ?_
                rintro e w6 ⟨rfl, q6, e6⟩
                have X3 : Hid (MW w6 (N + 2) (N + 1) N m r1) := by rw [e6]; exact (X1.out.drw q5).drw q6
                have X4 : Hid (MW w6 (N2 + 2) (N2 + 1) N2 m r2) := by rw [e6]; exact (X2.out.drw q5).drw q6
                have B6 : Hid (Below N w w6) := by rw [e6]; exact (BL.out.trans ((Ba.bdrew _ q5).mono (by have := X1.out.cell_lt; omega))).trans ((Ba.bdrew _ q6).mono (by have := (X1.out.drw q5).cell_lt; omega))
                have hz : (z != z) = false := by simp
                clear e6 H1 H2 X1 X2 BL
                go_wp2_with fail
                go_roundw
                case rel => exact ⟨k + 1, by omega, by go_num, X3.out, X4.out, B6.out⟩
                case measure => simp [intOf]; omega
              · have hltk' : ¬ ((k : Int) < (m : Int)) := by omega
                go_wp2_with fail
                go_roundw
                case rel => exact ⟨i + 1, by omega, by go_num, X1.out, X2.out, BL.out⟩
                case measure => simp [intOf]; omega
          · have hlti' : ¬ ((i : Int) < (m : Int)) := by omega
            have C1 := Mx.hide (count_any X1.out)
            have C2 := Mx.hide (count_any X2.out)
            rw [← ET.out] at C2
            generalize total r1 m m = T at *
            go_wp2_with fail
            refine C1.out.mono ?_
            rintro e w5 ⟨rfl, rfl⟩
            go_wp2_with fail
            refine C2.out.mono ?_
            rintro e w5 ⟨rfl, rfl⟩
            go_wp2_with fail
            refine (three_any _).mono ?_
            rintro e w6 ⟨rfl, b6⟩
            have B6 : Hid (Below N w w6) := BL.out.trans (b6.mono (by have := X1.out.cell_lt; omega))
            clear b6
            go_wp2_with fail
            go_ret
            exact ⟨rfl, B6.out⟩

/-! ### the row -/
set_option maxRecDepth 100000 in
theorem lifted (os : Os) (started : os.Started) (H : Type) (enc : TypeId × Value → H) :
    ReturnsInHanded {} Try.checked os 7 .any (Rows.matrixTurnedSpec.pre6 enc Try.prog Try.f7 Rows.matrixTurnedRow.domain false) (Rows.matrixTurnedSpec.post enc Try.prog Try.f7 false true false false) := by
  refine returnsInHanded_of_change (C := Try.checked) own started (by kernel_rfl) Try.func7
    (ChangeSpec.witness6 (enc := enc) (C := Try.checked) false ⟨#[], #[.int .i64 0, .slice none 0 0], []⟩ 8 (by kernel_rfl) (by kernel_rfl) (by kernel_rfl) (by kernel_rfl)) ?_
  intro W base args ds gs before hval0 hW hcnd _
  have hval : ∀ (j : Nat) t v, Try.f7.params[j]? = some t → args[j]? = some v → Value.okWide Try.prog W .any base t v := hval0
  have hW' := hW
  obtain ⟨p, q, hA0, hV, rfl, hfz, hnd⟩ := hW
  have hA : DataW.TrodAll enc Try.prog W 0 (fun _ => true) true Try.f7.params.toList args.toList ds p := hA0
  rw [Try.params7] at hA hval
  obtain ⟨v0, vs0, d0, ds0, p0, q0, hargs, rfl, rfl, h0, r0⟩ := trodAll_cons hA
  obtain ⟨v1, vs1, d1, ds1, p1, q1, rfl, rfl, rfl, h1, r1⟩ := trodAll_cons r0
  obtain ⟨rfl, rfl, rfl⟩ := trodAll_nil r1
  obtain rfl : args = #[v0, v1] := by cases args; simp_all
  obtain ⟨rfl, rfl⟩ := trodVars_none hV
  obtain ⟨a0, rfl, rfl, rfl, w0⟩ := open_int Try.underlying3 (hval 0 3 v0 rfl rfl) h0
  obtain ⟨oa1, n1, c1, rfl⟩ := okWide_slice Try.underlying22 (hval 1 22 v1 rfl rfl)
  have k1 := h1
  have lt1 : ∀ x ∈ p1, x.block < W.heap.size := by obtain ⟨m, hm⟩ := k1; exact DataW.trod_lt m _ _ _ hm
  obtain ⟨l1, rfl, A1, C1, M1⟩ := h1.elim fun _ hf => pairs_open hf
  clear hA0 hval0
  refine (core (w := W) a0 oa1 l1 c1 A1 (Nat.le_trans C1 M1)).mono fun e W' ⟨he, bel⟩ => ?_
  subst he
  exact ⟨_, rfl, _, _, _, [], _, [], hW', trodAll_mk1 (shut_bool Try.underlying4 _), (trodAll_cons_mk (shut_int Try.underlying3 w0) (trodAll_cons_mk (Below.trod laidOut (by kernel_rfl) (of_decide_eq_true (by kernel_rfl)) k1 bel lt1) trodAll_mk0)), rfl, bel.frame _, fun h => by cases h⟩

theorem over : Rows.matrixTurnedRow.holds Try.pinned (OpenSpec.ofChange Rows.matrixTurnedSpec) :=
  OpenClaim.holds_of_wide 7 Try.f7 rfl rfl rfl rfl rfl rfl rfl ⟨rfl, rfl, rfl, rfl, rfl⟩ rfl rfl rfl rfl rfl (by kernel_rfl) Try.func7 (by kernel_rfl)
    (of_decide_eq_true (by kernel_rfl)) (by unfold Func.isWrapper; first | (rw [if_pos (by decide +kernel)]; kernel_rfl) | (rw [if_neg (by decide +kernel)]; exact ⟨rfl, rfl⟩))
    (fun os started H enc _ => lifted os started H enc)

/-- the statement -/
theorem proved : Rows.MatrixTurnedSaid := over
#print axioms proved
end Go.Proofs.Ytdfjcmlafhannaa.matrixTurned
