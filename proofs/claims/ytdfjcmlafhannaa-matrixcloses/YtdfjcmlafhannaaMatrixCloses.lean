/- Every n and pairs: MatrixCloses answers true: the closure of every matrix is the document's; a copy is not changed by it. -/
import Derived.Test.YtdfjcmlafhannaaNb8
import Derived.Test.YtdfjcmlafhannaaBo
import Derived.ShutString
import Derived.ChangeOld
import Derived.Below
namespace Go.Proofs.Ytdfjcmlafhannaa.matrixCloses
open Go.ChangeShapes Go.WideShapes Go.ChangeAt Go.RowKit
open Go.ChangeMaps (open_string shut_string)
open Mx

theorem own : ownKnob Try.prog.godebug = none := by kernel_rfl
theorem laidOut : laidOutB Try.prog = true := by kernel_rfl

set_option maxRecDepth 100000 in
set_option maxHeartbeats 1600000 in
theorem small {w : World} (n : Int) (oa : Option Addr) (len c : Nat) (hm : len ≤ maxLen) (h : 30 < n ∨ 200 < len) :
    Calls Try.prog 4 #[.int .i64 n, .slice oa len c] w fun e w' => e = .returned (.bool true) ∧ Below w.heap.size w w' := by
  unfold maxLen at hm
  have TH := Mx.hide (three_any w)
  have key : ∀ b d : Bool, decide (30 < n) = b → decide ((200 : Int) < (len : Int)) = d → (b || d) = true → Calls Try.prog 4 #[.int .i64 n, .slice oa len c] w fun e w' => e = .returned (.bool true) ∧ Below w.heap.size w w' := by
    intro b d hb hd hab
    have hd2 : decide (200 < len) = d := by rw [← hd, decide_eq_decide]; omega
    clear h
    cases b <;> cases d
    all_goals
      first
      | (exfalso; revert hab; decide)
      | (clear hab
         go_enter Try.func4, Try.ntmps4
         go_wp2_with fail
         refine TH.out.mono ?_
         rintro r w1 ⟨rfl, b1⟩
         have B1 := Mx.hide b1
         clear b1
         go_wp2_with fail
         go_ret
         exact ⟨rfl, B1.out⟩)
  refine key _ _ rfl rfl ?_
  rcases h with h | h
  · simp [h]
  · have : (200 : Int) < (len : Int) := by omega
    simp [this]
set_option maxRecDepth 100000 in
set_option maxHeartbeats 1600000 in
theorem below0 {w : World} (n : Int) (oa : Option Addr) (len c : Nat) (hl : len ≤ 200) (h : n < 0) :
    Calls Try.prog 4 #[.int .i64 n, .slice oa len c] w fun e w' => e = .returned (.bool true) ∧ Below w.heap.size w w' := by
  have TH := Mx.hide (three_any w)
  have N1 := Mx.hide (new_bad n (.inl h) w)
  have N2 := Mx.hide (rnew_bad n (.inl h) w)
  have a1 : decide ((30 : Int) < n) = false := by simp; omega
  have a2 : decide ((200 : Int) < (len : Int)) = false := by simp; omega
  have a3 : decide (200 < len) = false := by simp; omega
  clear h
  go_enter Try.func4, Try.ntmps4
  go_wp2_with fail
  refine N1.out.mono ?_
  rintro r w1 ⟨rfl, e1⟩
  obtain rfl := e1.symm
  go_wp2_with fail
  refine N2.out.mono ?_
  rintro r w1 ⟨rfl, e1⟩
  obtain rfl := e1.symm
  go_wp2_with fail
  refine TH.out.mono ?_
  rintro r w1 ⟨rfl, b1⟩
  have B1 := Mx.hide b1
  clear b1
  go_wp2_with fail
  go_ret
  exact ⟨rfl, B1.out⟩
set_option maxRecDepth 100000 in
set_option maxHeartbeats 6400000 in
theorem core {w : World} (n : Int) (oa : Option Addr) (l : List (Int × Int)) (c : Nat) (hA : PAt w oa l) (hm : l.length ≤ maxLen) :
    Calls Try.prog 4 #[.int .i64 n, .slice oa l.length c] w fun e w' => e = .returned (.bool true) ∧ Below w.heap.size w w' := by
  by_cases hs : 30 < n ∨ 200 < l.length
  · exact small n oa l.length c hm hs
  · by_cases h0 : n < 0
    · exact below0 n oa l.length c (by omega) h0
    obtain ⟨m, rfl⟩ := Int.eq_ofNat_of_zero_le (show 0 ≤ n by omega)
    have hm60 : m ≤ 30 := by omega
    have hl200 : l.length ≤ 200 := by omega
    have a2 : decide ((30 : Int) < (m : Int)) = false := by simp; omega
    have a3 : decide ((200 : Int) < (l.length : Int)) = false := by simp; omega
    have a4 : decide (200 < l.length) = false := by simp; omega
    have PA := Mx.hide hA
    have NW := Mx.hide (fun u : World => new_ok m (by omega) u)
    have NR := Mx.hide (fun u : World => rnew_ok m (by omega) u)
    clear hs hA hm h0
    obtain ⟨N, hN⟩ : ∃ N, w.heap.size = N := ⟨_, rfl⟩
    have HN := Mx.hide hN
    rw [hN]
    go_enter Try.func4, Try.ntmps4
    go_wp2_with fail
    refine (NW.out _).mono ?_
    rintro e w1 ⟨rfl, m1, b1⟩
    rw [hN] at m1 b1 ⊢
    have M1 := Mx.hide m1
    have B1 := Mx.hide b1
    obtain ⟨N2, hN2⟩ : ∃ N2, w1.heap.size = N2 := ⟨_, rfl⟩
    have hNN : N + 2 < N2 := by rw [← hN2]; exact m1.cell_lt
    clear m1 b1 hN
    go_wp2_with fail
    refine (NR.out _).mono ?_
    rintro e w2 ⟨rfl, ⟨v0, bs0, x2⟩, b2⟩
    rw [hN2] at x2 b2 ⊢
    have M2 : Hid (∃ v bs, RX w2 N2 N2 m (Mx.hs no) v bs) := ⟨v0, bs0, by rw [no_hs]; exact x2⟩
    have M1' := Mx.hide (M1.out.below (by rw [hN2]; exact b2))
    have B2 : Hid (Below N w w2) := B1.out.trans (b2.mono (by omega))
    clear x2 b2 M1 B1 NW NR hN2
    go_wp2_with fail
    go_loopw [51] (fun s wr => ∃ j : Nat, j ≤ l.length ∧ s = .int .i64 (j : Int) ∧ MW wr (N + 2) (N + 1) N m (sets m no (l.take j)) ∧ (∃ v bs, RX wr N2 N2 m (Mx.hs (sets m no (l.take j))) v bs) ∧ Below N w wr) (fun s _ => l.length - (intOf s).toNat)
    case atStart => exact ⟨0, Nat.zero_le _, rfl, M1'.out, M2.out, B2.out⟩
    case round =>
      obtain ⟨j, hj, rfl, x1, ⟨v1, bs1, x2⟩, bl⟩ := hrel
      clear M1' M2 B2
      by_cases hlt : j < l.length
      · have hlt' : (j : Int) < (l.length : Int) := by omega
        obtain ⟨p, hp⟩ := pair_lt hlt
        obtain ⟨b, off, rfl, q1, q2⟩ := PA.out.below (by rw [HN.out]; exact bl) j p hp
        have BA := Ba.below_alloc wr (.cells #[.int .i64 p.1, .int .i64 p.2] 32)
        have hsz : N ≤ wr.heap.size := by have := bl.size; rw [HN.out] at this; exact this
        have hlt1 := x1.cell_lt
        have hlt2 := Ba.heap_lt x2.hd
        have X1 := Mx.hide (x1.below BA)
        have X2 := Mx.hide (x2.below BA)
        have BL : Hid (Below N w (wr.alloc (.cells #[.int .i64 p.1, .int .i64 p.2] 32))) := bl.trans (BA.mono hsz)
        have PC := Mx.hide (Ba.heap_new wr (.cells #[.int .i64 p.1, .int .i64 p.2] 32))
        have S1 := Mx.hide (sets_take (n := m) (r := no) hp)
        obtain ⟨p1, p2⟩ := p
        simp only at q1 q2 X1 X2 BL PC S1
        clear x1 x2 bl BA hp
        go_wp2_with fail
        generalize wr.alloc (.cells #[.int .i64 p1, .int .i64 p2] 32) = W1 at *
        obtain ⟨A, hA⟩ : ∃ A, wr.heap.size = A := ⟨_, rfl⟩
        rw [hA] at hlt1 hlt2 hsz PC ⊢
        clear hA
        refine (set_any X1.out p1 p2).mono ?_
        rintro e w3 ⟨rfl, m3, k3⟩
        have M3 : Hid (MW w3 (N + 2) (N + 1) N m (sets m no (l.take (j + 1)))) := by rw [S1.out]; exact m3
        have M4 := Mx.hide (X2.out.kb k3 (by omega))
        have PC3 := Mx.hide (k3.heap PC.out (by omega))
        have B3 : Hid (Below N w w3) := bel_kb BL.out k3 (by have := Ba.heap_lt PC.out; omega) (by omega)
        have d0 : w3.cell? ⟨A, 0, none⟩ = some (.int .i64 p1) := by rw [Ba.cell_of PC3.out]; rfl
        have d1 : w3.cell? ⟨A, 1, none⟩ = some (.int .i64 p2) := by rw [Ba.cell_of PC3.out]; rfl
        clear m3 k3 X1 X2 BL PC
        go_wp2_with fail
        refine (rset_any M4.out p1 p2).mono ?_
        rintro e w4 ⟨rfl, x4, b4, -⟩
        have M5 : Hid (∃ v bs, RX w4 N2 N2 m (Mx.hs (sets m no (l.take (j + 1)))) v bs) := ⟨_, _, by rw [S1.out, ← hs_setR]; exact x4⟩
        have M6 := Mx.hide (M3.out.bel b4 (by omega) (by omega) (by omega))
        have B4 : Hid (Below N w w4) := B3.out.trans (b4.mono (by omega))
        clear x4 b4 M3 M4 B3 PC3 d0 d1
        go_wp2_with fail
        go_roundw
        case rel => exact ⟨j + 1, by omega, by go_num, M6.out, M5.out, B4.out⟩
        case measure => simp [intOf]; omega
      · have hlt' : ¬ ((j : Int) < (l.length : Int)) := by omega
        have ej : l.take j = l := List.take_of_length_le (by omega)
        rw [ej] at x1 x2
        have CP := Mx.hide (copy_any x1)
        have hlt2 := Ba.heap_lt x2.hd
        have X1 := Mx.hide x1
        have X2 := Mx.hide x2
        have BL := Mx.hide bl
        clear x1 x2 bl ej PA
        go_wp2_with fail
        clear hlt hlt' hj
        refine CP.out.mono ?_
        rintro e w3 ⟨rfl, m3, b3⟩
        have M3 := Mx.hide m3
        have M4 := Mx.hide (X1.out.below b3)
        have M5 := Mx.hide (X2.out.below b3)
        have B3 : Hid (Below N w w3) := BL.out.trans (b3.mono (by omega))
        clear m3 b3 X1 X2 BL CP
        obtain ⟨N3, hN3⟩ : ∃ N3, wr.heap.size = N3 := ⟨_, rfl⟩
        rw [hN3] at M3 hlt2 ⊢
        clear hN3
        generalize sets m no l = r at *
        go_wp2_with fail
        refine (count_any M3.out).mono ?_
        rintro e w4 ⟨rfl, rfl⟩
        go_wp2_with fail
        refine (close_any M4.out).mono ?_
        rintro e w4 ⟨rfl, m4, k4⟩
        have X1 := Mx.hide m4
        have X2 := Mx.hide (M5.out.kb k4 (by omega))
        have X3 := Mx.hide (M3.out.kb k4 (by omega) (by omega) (by omega))
        have B4 : Hid (Below N w w4) := bel_kb B3.out k4 (by have := M4.out.cell_lt; omega) (by omega)
        clear m4 k4 M3 M4 M5 B3
        have hsz2 : N2 ≤ w4.heap.size := Nat.le_of_lt (Ba.heap_lt X2.out.hd)
        go_wp2_with fail
        refine (rclose_any X2.out hsz2).mono ?_
        rintro e w5 ⟨rfl, ⟨v5, bs5, x5⟩, b5, k5⟩
        have Y1 := Mx.hide (X1.out.bel b5 (by omega) (by omega) (by omega))
        have Y2 : Hid (∃ v bs, RX w5 N2 N2 m (Mx.hs (clo r m)) v bs) := ⟨_, _, x5.congr (fun i k hi hk => (reach_is r m i k hi hk).symm)⟩
        have Y3 := Mx.hide (X3.out.kb k5 (by omega) (by omega) (by omega))
        have B5 : Hid (Below N w w5) := B4.out.trans (b5.mono (by omega))
        clear x5 b5 k5 X1 X2 X3 B4 hsz2
        generalize clo r m = r1 at *
        go_wp2_with fail
        rename World => w9
        go_loopw [13] (fun s wr => ∃ i : Nat, i ≤ m ∧ s = .int .i64 (i : Int) ∧ MW wr (N3 + 2) (N3 + 1) N3 m r ∧ MW wr (N + 2) (N + 1) N m r1 ∧ (∃ v bs, RX wr N2 N2 m (Mx.hs r1) v bs) ∧ Below N w wr) (fun s _ => m - (intOf s).toNat)
        case atStart => exact ⟨0, Nat.zero_le _, rfl, Y3.out, Y1.out, Y2.out, B5.out⟩
        case round =>
          obtain ⟨i, hi, rfl, x3, x1, x2, bl⟩ := hrel
          have X1 := Mx.hide x1
          have X2 := Mx.hide x2
          have X3 := Mx.hide x3
          have BL := Mx.hide bl
          clear x1 x2 x3 bl Y1 Y2 Y3 B5
          by_cases hlti : i < m
          · have hlti' : (i : Int) < (m : Int) := by omega
            go_wp2_with fail
            rename World => w8
            go_loopw [14] (fun s wr => ∃ k : Nat, k ≤ m ∧ s = .int .i64 (k : Int) ∧ MW wr (N3 + 2) (N3 + 1) N3 m r ∧ MW wr (N + 2) (N + 1) N m r1 ∧ (∃ v bs, RX wr N2 N2 m (Mx.hs r1) v bs) ∧ Below N w wr) (fun s _ => m - (intOf s).toNat)
            case atStart => exact ⟨0, Nat.zero_le _, rfl, X3.out, X1.out, X2.out, BL.out⟩
            case round =>
              obtain ⟨k, hk, rfl, x3, x1, ⟨v2, bs2, x2⟩, bl⟩ := hrel
              clear X1 X2 X3 BL
              by_cases hltk : k < m
              · have hltk' : (k : Int) < (m : Int) := by omega
                have H1 := Mx.hide (has_any x1 (i : Int) (k : Int))
                have H2 := Mx.hide (fun q => rhas_any (w := wr.drewN q) (x2.below (Ba.bdrew wr q)) (i : Int) (k : Int))
                simp only [fI_hs] at H2
                have X1 := Mx.hide x1
                have X2 := Mx.hide x2
                have X3 := Mx.hide x3
                have BL := Mx.hide bl
                clear x1 x2 x3 bl
                generalize hsI m r1 (i : Int) (k : Int) = z at *
                go_wp2_with fail
                refine H1.out.mono ?_
                rintro e w5 ⟨rfl, q5, e5⟩
                have Y1 : Hid (MW w5 (N + 2) (N + 1) N m r1) := by rw [e5]; exact X1.out.drw q5
                have Y2 : Hid (RX w5 N2 N2 m (Mx.hs r1) v2 bs2) := by rw [e5]; exact X2.out.below (Ba.bdrew wr q5)
                have Y3 : Hid (MW w5 (N3 + 2) (N3 + 1) N3 m r) := by rw [e5]; exact X3.out.drw q5
                have B5 : Hid (Below N w w5) := by rw [e5]; exact bel_drw BL.out (by have := X1.out.cell_lt; omega) q5
                have H3 := Mx.hide (H2.out q5)
                rw [← e5] at H3
                have hz : (z != z) = false := by simp
                clear e5 H1 H2 X1 X2 X3 BL
                go_wp2_with fail
                refine H3.out.mono ?_
                rintro e w6 ⟨rfl, rfl⟩
                go_wp2_with fail
                go_roundw
                case rel => exact ⟨k + 1, by omega, by go_num, Y3.out, Y1.out, ⟨_, _, Y2.out⟩, B5.out⟩
                case measure => simp [intOf]; omega
              · have hltk' : ¬ ((k : Int) < (m : Int)) := by omega
                have X1 := Mx.hide x1
                have X2 := Mx.hide x2
                have X3 := Mx.hide x3
                have BL := Mx.hide bl
                clear x1 x2 x3 bl
                go_wp2_with fail
                go_roundw
                case rel => exact ⟨i + 1, by omega, by go_num, X3.out, X1.out, ⟨_, _, X2.out⟩, BL.out⟩
                case measure => simp [intOf]; omega
          · have hlti' : ¬ ((i : Int) < (m : Int)) := by omega
            have C1 := Mx.hide (count_any X3.out)
            have hl6 := X1.out.cell_lt
            generalize total r m m = T at *
            go_wp2_with fail
            refine C1.out.mono ?_
            rintro e w5 ⟨rfl, rfl⟩
            go_wp2_with fail
            refine (three_any _).mono ?_
            rintro e w6 ⟨rfl, b6⟩
            have B6 : Hid (Below N w w6) := BL.out.trans (b6.mono (by omega))
            clear b6
            go_wp2_with fail
            go_ret
            exact ⟨rfl, B6.out⟩

/-! ### the row -/
set_option maxRecDepth 100000 in
theorem lifted (os : Os) (started : os.Started) (H : Type) (enc : TypeId × Value → H) :
    ReturnsInHanded {} Try.checked os 4 .any (Rows.matrixClosesSpec.pre6 enc Try.prog Try.f4 Rows.matrixClosesRow.domain false) (Rows.matrixClosesSpec.post enc Try.prog Try.f4 false true false false) := by
  refine returnsInHanded_of_change (C := Try.checked) own started (by kernel_rfl) Try.func4
    (ChangeSpec.witness6 (enc := enc) (C := Try.checked) false ⟨#[], #[.int .i64 0, .slice none 0 0], []⟩ 8 (by kernel_rfl) (by kernel_rfl) (by kernel_rfl) (by kernel_rfl)) ?_
  intro W base args ds gs before hval0 hW hcnd _
  have hval : ∀ (j : Nat) t v, Try.f4.params[j]? = some t → args[j]? = some v → Value.okWide Try.prog W .any base t v := hval0
  have hW' := hW
  obtain ⟨p, q, hA0, hV, rfl, hfz, hnd⟩ := hW
  have hA : DataW.TrodAll enc Try.prog W 0 (fun _ => true) true Try.f4.params.toList args.toList ds p := hA0
  rw [Try.params4] at hA hval
  obtain ⟨v0, vs0, d0, ds0, p0, q0, hargs, rfl, rfl, h0, r0⟩ := trodAll_cons hA
  obtain ⟨v1, vs1, d1, ds1, p1, q1, rfl, rfl, rfl, h1, r1⟩ := trodAll_cons r0
  obtain ⟨rfl, rfl, rfl⟩ := trodAll_nil r1
  obtain rfl : args = #[v0, v1] := by cases args; simp_all
  obtain ⟨rfl, rfl⟩ := trodVars_none hV
  obtain ⟨a0, rfl, rfl, rfl, w0⟩ := open_int Try.underlying3 (hval 0 3 v0 rfl rfl) h0
  obtain ⟨oa1, n1, c1, rfl⟩ := okWide_slice Try.underlying22 (hval 1 22 v1 rfl rfl)
  have k1 := h1
  have lt1 : ∀ x ∈ p1, x.block < W.heap.size := by obtain ⟨m, hm⟩ := k1; exact DataW.trod_lt m _ _ _ hm
  obtain ⟨l1, rfl, A1, C1, M1⟩ := h1.elim fun _ hf => pairs_open hf
  clear hA0 hval0
  refine (core (w := W) a0 oa1 l1 c1 A1 (Nat.le_trans C1 M1)).mono fun e W' ⟨he, bel⟩ => ?_
  subst he
  exact ⟨_, rfl, _, _, _, [], _, [], hW', trodAll_mk1 (shut_bool Try.underlying4 _), (trodAll_cons_mk (shut_int Try.underlying3 w0) (trodAll_cons_mk (Below.trod laidOut (by kernel_rfl) (of_decide_eq_true (by kernel_rfl)) k1 bel lt1) trodAll_mk0)), rfl, bel.frame _, fun h => by cases h⟩

theorem over : Rows.matrixClosesRow.holds Try.pinned (OpenSpec.ofChange Rows.matrixClosesSpec) :=
  OpenClaim.holds_of_wide 4 Try.f4 rfl rfl rfl rfl rfl rfl rfl ⟨rfl, rfl, rfl, rfl, rfl⟩ rfl rfl rfl rfl rfl (by kernel_rfl) Try.func4 (by kernel_rfl)
    (of_decide_eq_true (by kernel_rfl)) (by unfold Func.isWrapper; first | (rw [if_pos (by decide +kernel)]; kernel_rfl) | (rw [if_neg (by decide +kernel)]; exact ⟨rfl, rfl⟩))
    (fun os started H enc _ => lifted os started H enc)

/-- the statement -/
theorem proved : Rows.MatrixClosesSaid := over
#print axioms proved
end Go.Proofs.Ytdfjcmlafhannaa.matrixCloses
