/- Who waits on a channel must: receivers where there is no value, senders where there is no room, both of one goroutine alone, nobody on a closed one; for every capacity and every list of steps. -/
import Derived.Test.YtapabnakbaoijaaKi
import Derived.Test.YtapabnakbaoijaaWh
import Derived.ShutString
import Derived.ChangeOld
import Derived.Below
namespace Go.Proofs.Ytapabnakbaoijaa.pipeStill
open Go.ChangeShapes Go.WideShapes Go.ChangeAt Go.RowKit
open Go.ChangeMaps (open_string shut_string)
open Ba Pe _root_.Go.Proofs.Ytapabnakbaoijaa.Pi Rp

theorem own : ownKnob Try.prog.godebug = none := by kernel_rfl
theorem laidOut : laidOutB Try.prog = true := by kernel_rfl

set_option maxRecDepth 100000 in
set_option maxHeartbeats 12800000 in
theorem core {w : World} (s : Int) (oa : Option Addr) (l : List (List Int)) (c : Nat) (hA : RAt w oa 4 l) (hl : l.length ≤ maxLen) :
    Calls Try.prog 5 #[.int .i64 s, .slice oa l.length c] w fun r w' => r = .returned (.bool true) ∧ Below w.heap.size w w' := by
  have HA := hide hA
  unfold maxLen at hl
  clear hA
  by_cases hsz : s < 0 ∨ 4 < s
  · go_enter Try.func5, Try.ntmps5
    go_wp2_with fail
    refine (Pi.new_err s _ hsz).mono ?_
    rintro r w1 ⟨rfl, rfl⟩
    go_wp2_with fail
    refine (hands_any _).mono ?_
    rintro r w5 ⟨rfl, b5⟩
    have B5 := hide b5
    clear b5
    go_wp2_with fail
    go_ret
    exact ⟨rfl, B5.out⟩
  obtain ⟨n, rfl⟩ := Int.eq_ofNat_of_zero_le (show 0 ≤ s by omega)
  have hn : n ≤ 4 := by omega
  clear hsz
  go_enter Try.func5, Try.ntmps5
  go_wp2_with fail
  refine (Pi.new_ok n _ hn).mono ?_
  rintro r w1 ⟨B, F, rfl, p1, l1, b1⟩
  have P1 := hide p1
  have L1 := hide l1
  have B1 := hide b1
  clear p1 l1 b1
  by_cases h3 : 300 < l.length
  · have h3' : decide ((300 : Int) < (l.length : Int)) = true := decide_eq_true (by omega)
    go_wp2_with fail
    refine (hands_any _).mono ?_
    rintro r w5 ⟨rfl, b5⟩
    have B5 := hide (btr B1.out b5)
    clear b5
    go_wp2_with fail
    go_ret
    exact ⟨rfl, B5.out⟩
  have h3' : decide ((300 : Int) < (l.length : Int)) = false := decide_eq_false (by omega)
  go_wp2_with fail
  refine (rnew_ok n _ hn).mono ?_
  rintro r w2 ⟨G, R, rfl, r2, l2, b2⟩
  have T2 : Hid (Tp w w2 B G F R 0 (st0 n)) := ⟨P1.out.below b2, r2, fun x hx hr => by have h1 := P1.out.bd x hx; have h2 := l2 x hr; omega, btr B1.out b2, L1.out, fun x hx => Nat.le_trans B1.out.size (l2 x hx), Nat.le_refl _, Nat.le_refl _⟩
  clear r2 l2 b2 P1 L1 B1
  go_wp2_with fail
  go_loopw [48] (fun j wr => ∃ (k : Nat) (F R : Nat → Prop) (st : St), k ≤ l.length ∧ j = .int .i64 k ∧ Inv st ∧ Tp w wr B G F R k st) (fun j _ => l.length - (intOf j).toNat)
  case atStart => exact ⟨0, F, R, st0 n, Nat.zero_le _, rfl, Inv.zero n, T2.out⟩
  case round =>
    clear T2
    obtain ⟨k, F, R, st, hk, rfl, hsn, t3⟩ := hrel
    have T3 := hide t3
    have HSN := hide hsn
    clear t3 hsn
    by_cases hlt : k < l.length
    · have hlt' : (k : Int) < (l.length : Int) := by omega
      obtain ⟨z, hz⟩ : ∃ z, l[k]? = some z := ⟨_, List.getElem?_eq_getElem hlt⟩
      obtain ⟨b', o', rfl, hc⟩ := (HA.out.below T3.out.b) k z hz
      have q0 := hc 0 (by decide)
      have q1 := hc 1 (by decide)
      have q2 := hc 2 (by decide)
      have q3 := hc 3 (by decide)
      rw [Nat.add_zero] at q0
      clear hc hz
      generalize nth z 0 = what at q0
      generalize nth z 1 = xg at q1
      generalize nth z 2 = xc at q2
      generalize nth z 3 = xv at q3
      have T4 := hide (T3.out.below (below_alloc wr (.cells #[.int .i64 what, .int .i64 xg, .int .i64 xc, .int .i64 xv] 34)))
      have DO := hide (T4.out.doesI HSN.out (by omega) what ⟨xg, xc, xv⟩)
      simp only at DO
      clear T3
      go_wp2_with fail
      refine DO.out.mono ?_
      rintro r w5 ⟨rfl, F5, R5, st5, -, hi5, t5⟩
      have T5 := hide t5
      have I5 := hide hi5
      clear t5 hi5 q0 q1 q2 q3 T4 DO
      have lS5 := T5.out.open.elim fun _ q => q.elim fun _ q => q.elim fun _ q => q.elim fun _ q => q.elim fun _ q => q.elim fun _ ro => ro.les
      have lQ5 := T5.out.open.elim fun _ q => q.elim fun _ q => q.elim fun _ q => q.elim fun _ q => q.elim fun _ q => q.elim fun _ ro => ro.leq
      obtain ⟨n1, hn1⟩ : ∃ n1, st5.snd.length = n1 := ⟨_, rfl⟩
      obtain ⟨n2, hn2⟩ : ∃ n2, st5.rcv.length = n2 := ⟨_, rfl⟩
      rw [hn1] at lS5
      rw [hn2] at lQ5
      have HN1 := hide hn1
      have HN2 := hide hn2
      clear hn1 hn2
      go_wp2_with fail
      refine (waiting_tn B F5 st5 n1 _ T5.out.p HN1.out).mono ?_
      rintro r w6 ⟨o6, c6, rfl, -, b6⟩
      have T6 := hide (T5.out.below b6)
      clear b6 T5
      go_wp2_with fail
      refine (waiting_fn B F5 st5 n2 _ T6.out.p HN2.out).mono ?_
      rintro r w7 ⟨o7, c7, rfl, -, b7⟩
      have T7 := hide (T6.out.below b7)
      clear b7 T6
      obtain ⟨nb, hnb⟩ : ∃ nb, st5.buf.length = nb := ⟨_, rfl⟩
      have HNB := hide hnb
      clear hnb
      by_cases h1 : 0 < n1
      · have d1 : decide (0 < (n1 : Int)) = true := decide_eq_true (by omega)
        have d1' : decide (0 < n1) = true := decide_eq_true h1
        have NS : Hid (st5.snd ≠ []) := fun e => by have := HN1.out; rw [e] at this; simp at this; omega
        have LS : Hid (st5.size = nb) := by show _ = _; rw [← HNB.out]; exact (I5.out.s NS.out).symm
        have HC : Hid (st5.closed = false) := by
          show _ = _
          cases e : st5.closed
          · rfl
          · exact absurd (I5.out.c e).1 NS.out
        by_cases h2 : 0 < n2
        · have d2 : decide (0 < (n2 : Int)) = true := decide_eq_true (by omega)
          have d2' : decide (0 < n2) = true := decide_eq_true h2
          have NR : Hid (st5.rcv ≠ []) := fun e => by have := HN2.out; rw [e] at this; simp at this; omega
          have LB : Hid (st5.buf.length = 0) := by show _ = _; rw [I5.out.r NR.out]; rfl
          go_wp2_with fail
          refine (waiting_tn B F5 st5 n1 _ T7.out.p HN1.out).mono ?_
          rintro r w8 ⟨o8, c8, rfl, at8, b8⟩
          have T8 := hide (T7.out.below b8)
          have A8 := hide at8
          clear b8 at8 T7
          go_wp2_with fail
          go_loopw [71] (fun i wx => ∃ m : Nat, m ≤ n1 ∧ i = .int .i64 m ∧ WAt wx o8 st5.snd ∧ Tp w wx B G F5 R5 (k + 1) st5) (fun i _ => n1 - (intOf i).toNat)
          case atStart => exact ⟨0, Nat.zero_le _, rfl, A8.out, T8.out⟩
          case round =>
            clear T8 A8
            rename World => wx
            obtain ⟨m, hm, rfl, at9, t9⟩ := hrel
            have T9 := hide t9
            have A9 := hide at9
            clear t9 at9
            by_cases hlm : m < n1
            · have hlm' : (m : Int) < (n1 : Int) := by omega
              obtain ⟨x, hx⟩ : ∃ x, st5.snd[m]? = some x := ⟨_, List.getElem?_eq_getElem (by have := HN1.out; omega)⟩
              obtain ⟨bx, ox, rfl, p0, p1, p2⟩ := A9.out m x hx
              have HX := hide (List.mem_of_getElem? hx)
              have T10 := hide (T9.out.below (below_alloc wx (.cells #[.int .i64 x.g, .int .i64 x.c, .int .i64 x.v] 32)))
              have X10 := hide (heap_new wx (.cells #[.int .i64 x.g, .int .i64 x.c, .int .i64 x.v] 32))
              have A10 := hide (A9.out.below (below_alloc wx (.cells #[.int .i64 x.g, .int .i64 x.c, .int .i64 x.v] 32)))
              clear hx T9 A9
              go_wp2_with fail
              generalize wx.alloc (.cells #[.int .i64 x.g, .int .i64 x.c, .int .i64 x.v] 32) = W10 at T10 X10 A10 ⊢
              generalize wx.heap.size = A at X10 ⊢
              refine (waiting_fn B F5 st5 n2 _ T10.out.p HN2.out).mono ?_
              rintro r w11 ⟨o11, c11, rfl, at11, b11⟩
              have T11 := hide (T10.out.below b11)
              have X11 := hide (heap_below X10.out b11)
              have A11 := hide (A10.out.below b11)
              have C11 := hide at11
              clear b11 at11 T10 X10 A10 p0 p1 p2
              go_wp2_with fail
              go_loopw [78] (fun i wy => ∃ q : Nat, q ≤ n2 ∧ i = .int .i64 q ∧ WAt wy (some ⟨bx, ox, none⟩) st5.snd ∧ WAt wy o11 st5.rcv ∧ wy.heap[A]? = some (.cells #[.int .i64 x.g, .int .i64 x.c, .int .i64 x.v] 32) ∧ Tp w wy B G F5 R5 (k + 1) st5) (fun i _ => n2 - (intOf i).toNat)
              case atStart => exact ⟨0, Nat.zero_le _, rfl, A11.out, C11.out, X11.out, T11.out⟩
              case round =>
                clear T11 A11 C11 X11
                rename World => wy
                obtain ⟨q, hq, rfl, at12, at13, x12, t12⟩ := hrel
                have T12 := hide t12
                have A12 := hide at12
                have C12 := hide at13
                have X12 := hide x12
                clear t12 at12 at13 x12
                by_cases hlq : q < n2
                · have hlq' : (q : Int) < (n2 : Int) := by omega
                  obtain ⟨y, hy⟩ : ∃ y, st5.rcv[q]? = some y := ⟨_, List.getElem?_eq_getElem (by have := HN2.out; omega)⟩
                  obtain ⟨by', oy, rfl, r0, r1, r2⟩ := C12.out q y hy
                  have EQ := I5.out.g x HX.out y (List.mem_of_getElem? hy)
                  have hxy : (x.g != y.g) = false := by rw [EQ]; simp
                  have T13 := hide (T12.out.below (below_alloc wy (.cells #[.int .i64 y.g, .int .i64 y.c, .int .i64 y.v] 32)))
                  have A13 := hide (A12.out.below (below_alloc wy (.cells #[.int .i64 y.g, .int .i64 y.c, .int .i64 y.v] 32)))
                  have C13 := hide (C12.out.below (below_alloc wy (.cells #[.int .i64 y.g, .int .i64 y.c, .int .i64 y.v] 32)))
                  have X13 := hide (heap_below X12.out (below_alloc wy (.cells #[.int .i64 y.g, .int .i64 y.c, .int .i64 y.v] 32)))
                  have hAl := heap_lt X12.out
                  have x0 : wy.cell? ⟨A, 0, none⟩ = some (.int .i64 x.g) := cell_of X12.out 0
                  clear hy T12 A12 C12 X12 EQ
                  go_wp2_with fail
                  go_roundw
                  case rel => exact ⟨q + 1, by omega, by go_num, A13.out, C13.out, X13.out, T13.out⟩
                  case measure => simp [intOf]; omega
                · have hlq' : ¬ ((q : Int) < (n2 : Int)) := by omega
                  go_wp2_with fail
                  go_roundw
                  case rel => exact ⟨m + 1, by omega, by go_num, A12.out, T12.out⟩
                  case measure => simp [intOf]; omega
            · have hlm' : ¬ ((m : Int) < (n1 : Int)) := by omega
              go_wp2_with fail
              refine (len_is B F5 st5 0 _ T9.out.p LB.out).mono ?_
              rintro r y1 ⟨rfl, rfl⟩
              go_wp2_with fail
              refine (len_is B F5 st5 nb _ T9.out.p HNB.out).mono ?_
              rintro r y1 ⟨rfl, rfl⟩
              go_wp2_with fail
              refine (cap_is B F5 st5 nb _ T9.out.p LS.out).mono ?_
              rintro r y1 ⟨rfl, rfl⟩
              go_wp2_with fail
              refine (closed_is B F5 st5 false _ T9.out.p HC.out).mono ?_
              rintro r y1 ⟨rfl, rfl⟩
              go_wp2_with fail
              go_roundw
              case rel => exact ⟨k + 1, F5, R5, st5, by omega, by go_num, I5.out, T9.out⟩
              case measure => simp [intOf]; omega
        · have h2' : n2 = 0 := by omega
          subst h2'
          go_wp2_with fail
          refine (len_is B F5 st5 nb _ T7.out.p HNB.out).mono ?_
          rintro r y1 ⟨rfl, rfl⟩
          go_wp2_with fail
          refine (cap_is B F5 st5 nb _ T7.out.p LS.out).mono ?_
          rintro r y1 ⟨rfl, rfl⟩
          go_wp2_with fail
          refine (closed_is B F5 st5 false _ T7.out.p HC.out).mono ?_
          rintro r y1 ⟨rfl, rfl⟩
          go_wp2_with fail
          go_roundw
          case rel => exact ⟨k + 1, F5, R5, st5, by omega, by go_num, I5.out, T7.out⟩
          case measure => simp [intOf]; omega
      · have h1' : n1 = 0 := by omega
        subst h1'
        by_cases h2 : 0 < n2
        · have d2 : decide (0 < (n2 : Int)) = true := decide_eq_true (by omega)
          have d2' : decide (0 < n2) = true := decide_eq_true h2
          have NR : Hid (st5.rcv ≠ []) := fun e => by have := HN2.out; rw [e] at this; simp at this; omega
          have LB : Hid (st5.buf.length = 0) := by show _ = _; rw [I5.out.r NR.out]; rfl
          have HC : Hid (st5.closed = false) := by
            show _ = _
            cases e : st5.closed
            · rfl
            · exact absurd (I5.out.c e).2 NR.out
          go_wp2_with fail
          refine (len_is B F5 st5 0 _ T7.out.p LB.out).mono ?_
          rintro r y1 ⟨rfl, rfl⟩
          go_wp2_with fail
          refine (closed_is B F5 st5 false _ T7.out.p HC.out).mono ?_
          rintro r y1 ⟨rfl, rfl⟩
          go_wp2_with fail
          go_roundw
          case rel => exact ⟨k + 1, F5, R5, st5, by omega, by go_num, I5.out, T7.out⟩
          case measure => simp [intOf]; omega
        · have h2' : n2 = 0 := by omega
          subst h2'
          cases hcl : st5.closed
          · have HC2 := hide hcl
            clear hcl
            go_wp2_with fail
            refine (closed_is B F5 st5 false _ T7.out.p HC2.out).mono ?_
            rintro r y1 ⟨rfl, rfl⟩
            go_wp2_with fail
            go_roundw
            case rel => exact ⟨k + 1, F5, R5, st5, by omega, by go_num, I5.out, T7.out⟩
            case measure => simp [intOf]; omega
          · have HC2 := hide hcl
            clear hcl
            go_wp2_with fail
            refine (closed_is B F5 st5 true _ T7.out.p HC2.out).mono ?_
            rintro r y1 ⟨rfl, rfl⟩
            go_wp2_with fail
            go_roundw
            case rel => exact ⟨k + 1, F5, R5, st5, by omega, by go_num, I5.out, T7.out⟩
            case measure => simp [intOf]; omega
    · have hlt' : ¬ ((k : Int) < (l.length : Int)) := by omega
      go_wp2_with fail
      refine (hands_any _).mono ?_
      rintro r w8 ⟨rfl, b8⟩
      have B8 := hide (btr T3.out.b b8)
      clear b8
      go_wp2_with fail
      go_ret
      exact ⟨rfl, B8.out⟩

/-! ### the row -/
set_option maxRecDepth 100000 in
theorem lifted (os : Os) (started : os.Started) (H : Type) (enc : TypeId × Value → H) :
    ReturnsInHanded {} Try.checked os 5 .any (Rows.pipeStillSpec.pre6 enc Try.prog Try.f5 Rows.pipeStillRow.domain false) (Rows.pipeStillSpec.post enc Try.prog Try.f5 false true false false) := by
  refine returnsInHanded_of_change (C := Try.checked) own started (by kernel_rfl) Try.func5
    (ChangeSpec.witness6 (enc := enc) (C := Try.checked) false ⟨#[], #[.int .i64 0, .slice none 0 0], []⟩ 8 (by kernel_rfl) (by kernel_rfl) (by kernel_rfl) (by kernel_rfl)) ?_
  intro W base args ds gs before hval0 hW hcnd _
  have hval : ∀ (j : Nat) t v, Try.f5.params[j]? = some t → args[j]? = some v → Value.okWide Try.prog W .any base t v := hval0
  have hW' := hW
  obtain ⟨p, q, hA0, hV, rfl, hfz, hnd⟩ := hW
  have hA : DataW.TrodAll enc Try.prog W 0 (fun _ => true) true Try.f5.params.toList args.toList ds p := hA0
  rw [Try.params5] at hA hval
  obtain ⟨v0, vs0, d0, ds0, p0, q0, hargs, rfl, rfl, h0, r0⟩ := trodAll_cons hA
  obtain ⟨v1, vs1, d1, ds1, p1, q1, rfl, rfl, rfl, h1, r1⟩ := trodAll_cons r0
  obtain ⟨rfl, rfl, rfl⟩ := trodAll_nil r1
  obtain rfl : args = #[v0, v1] := by cases args; simp_all
  obtain ⟨rfl, rfl⟩ := trodVars_none hV
  obtain ⟨a0, rfl, rfl, rfl, w0⟩ := open_int Try.underlying3 (hval 0 3 v0 rfl rfl) h0
  obtain ⟨oa1, n1, c1, rfl⟩ := okWide_slice Try.underlying22 (hval 1 22 v1 rfl rfl)
  have k1 := h1
  have lt1 : ∀ x ∈ p1, x.block < W.heap.size := by obtain ⟨m, hm⟩ := k1; exact DataW.trod_lt m _ _ _ hm
  obtain ⟨l1, rfl, A1, C1, M1⟩ := h1.elim fun _ hf => steps_open hf
  clear hA0 hval0
  refine (core (w := W) a0 oa1 l1 c1 A1 (Nat.le_trans C1 M1)).mono fun e W' ⟨he, bel⟩ => ?_
  subst he
  exact ⟨_, rfl, _, _, _, [], _, [], hW', trodAll_mk1 (shut_bool Try.underlying4 _), (trodAll_cons_mk (shut_int Try.underlying3 w0) (trodAll_cons_mk (Below.trod laidOut (by kernel_rfl) (of_decide_eq_true (by kernel_rfl)) k1 bel lt1) trodAll_mk0)), rfl, bel.frame _, fun h => by cases h⟩

theorem over : Rows.pipeStillRow.holds Try.pinned (OpenSpec.ofChange Rows.pipeStillSpec) :=
  OpenClaim.holds_of_wide 5 Try.f5 rfl rfl rfl rfl rfl rfl rfl ⟨rfl, rfl, rfl, rfl, rfl⟩ rfl rfl rfl rfl rfl (by kernel_rfl) Try.func5 (by kernel_rfl)
    (of_decide_eq_true (by kernel_rfl)) (by unfold Func.isWrapper; first | (rw [if_pos (by decide +kernel)]; kernel_rfl) | (rw [if_neg (by decide +kernel)]; exact ⟨rfl, rfl⟩))
    (fun os started H enc _ => lifted os started H enc)

/-- the statement -/
theorem proved : Rows.PipeStillSaid := over
#print axioms proved
end Go.Proofs.Ytapabnakbaoijaa.pipeStill
