/- A record stays: its tid and where it began never change, and who is gone stays gone, whatever steps are done. -/
import Derived.Test.YtledfepeoajgoaaUb4
import Derived.ShutString
import Derived.ChangeOld
import Derived.Below
namespace Go.Proofs.Ytledfepeoajgoaa.remapStays
open Go.ChangeShapes Go.WideShapes Go.ChangeAt Go.RowKit
open Go.ChangeMaps (open_string shut_string)
open Rk Ba

theorem own : ownKnob Try.prog.godebug = none := by kernel_rfl
theorem laidOut : laidOutB Try.prog = true := by kernel_rfl

set_option maxRecDepth 100000 in
set_option maxHeartbeats 12800000 in
theorem core {w : World} (oa : Option Addr) (L : List (List Int)) (c : Nat) (hA : RAt w oa 4 L) (hl : L.length ≤ maxLen) (g : Int) :
    Calls Try.prog 6 #[.slice oa L.length c, .int .i64 g] w fun r w' => r = .returned (.bool true) ∧ Below w.heap.size w w' := by
  have HA := hide hA
  unfold maxLen at hl
  have TU := hide fun u => turns_any u
  clear hA
  by_cases h3 : 200 < L.length
  · have h3' : (200 : Int) < (L.length : Int) := by omega
    go_enter Try.func6, Try.ntmps6
    go_wp2_with fail
    refine (new_x _).mono ?_
    rintro r w1 ⟨B, rfl, p1⟩
    have B1 := hide p1.b
    clear p1
    go_wp2_with fail
    refine (TU.out _).mono ?_
    rintro r w2 ⟨rfl, b2⟩
    have B2 := hide (btr B1.out b2)
    clear b2
    go_wp2_with fail
    go_ret
    exact ⟨rfl, B2.out⟩
  have h3' : ¬ (200 : Int) < (L.length : Int) := by omega
  go_enter Try.func6, Try.ntmps6
  go_wp2_with fail
  refine (new_any _).mono ?_
  rintro r w1 ⟨B, F0, rfl, p1, f1, b1⟩
  have P1 := hide p1
  have F1 := hide f1
  have B1 := hide b1
  clear p1 f1 b1
  go_wp2_with fail
  refine (rnew_any _).mono ?_
  rintro r w2 ⟨G, H0, rfl, p2, f2, b2⟩
  have D0 := hide (dx_new P1.out F1.out B1.out p2 f2 b2)
  clear p2 f2 b2 P1 F1 B1
  go_wp2_with fail
  go_loopw [29] (fun i wr => ∃ (k : Nat) (l m : List Rd) (F H : Nat → Prop), k ≤ L.length ∧ i = .int .i64 k ∧ Rel l m ∧ l.length ≤ k + 1 ∧ Dx w wr B F G H l m) (fun i _ => L.length - (intOf i).toNat)
  case atStart => exact ⟨0, _, _, _, _, Nat.zero_le _, rfl, Rel.one, Nat.le_refl _, D0.out⟩
  case round =>
    clear D0
    obtain ⟨k, l, m, F, H, hk, rfl, rl, hlen, d1⟩ := hrel
    have RL := hide rl
    have DX := hide d1
    have LEN := hide hlen
    clear rl d1 hlen
    by_cases hlt : k < L.length
    · have hlt' : (k : Int) < (L.length : Int) := by omega
      obtain ⟨x, hx⟩ : ∃ x, L[k]? = some x := ⟨_, List.getElem?_eq_getElem hlt⟩
      obtain ⟨b', o', rfl, hc⟩ := (HA.out.below DX.out.b) k x hx
      have q0 := hc 0 (by decide)
      have q1 := hc 1 (by decide)
      have q2 := hc 2 (by decide)
      have q3 := hc 3 (by decide)
      rw [Nat.add_zero] at q0
      clear hc hx
      generalize nth x 0 = sq at q0
      generalize nth x 1 = sg at q1
      generalize nth x 2 = sn at q2
      generalize nth x 3 = sa at q3
      obtain ⟨st0, hst⟩ : ∃ s : S4, s = ⟨sq, sg, sn, sa⟩ := ⟨_, rfl⟩
      have bX := below_alloc wr (.cells #[.int .i64 sq, .int .i64 sg, .int .i64 sn, .int .i64 sa] 29)
      have D2 := hide (DX.out.below bX)
      have X2 := hide (heap_new wr (.cells #[.int .i64 sq, .int .i64 sg, .int .i64 sn, .int .i64 sa] 29))
      have R2 := hide (RL.out.step st0)
      have L2 : Hid ((stE st0 l).length ≤ k + 1 + 1) := Nat.le_trans (stE_len st0 l) (by have := LEN.out; omega)
      have DO := hide fun u F H (hu : Dx w u B F G H l m) => does_any w u B F G H l m st0 hu RL.out (by have := LEN.out; omega)
      rw [show sv st0 = .agg #[.int .i64 sq, .int .i64 sg, .int .i64 sn, .int .i64 sa] by rw [hst]; rfl] at DO
      have OF1 := hide fun u (hu : Tx w u B l) => of_x hu g RL.out.gd (by have := LEN.out; omega)
      have OF2 := hide fun u (hu : Tx w u B (stE st0 l)) => of_x hu g R2.out.gd (by have := L2.out; omega)
      have SS := hide fun x (hx : fd l g = some x) => stays_step (s := st0) RL.out.gd R2.out.gd hx
      have FN := hide (@fd_none l g)
      generalize stE st0 l = l' at *
      generalize stM st0 m = m' at *
      clear hst bX
      cases hh : hs l g with
      | false =>
        have F0 := FN.out hh
        rw [hh, F0] at OF1
        unfold fdR zr rv at OF1
        simp only [Option.getD_none] at OF1
        clear SS FN F0 hh
        generalize fdR (fd l' g) = y at OF2
        generalize hs l' g = z at OF2
        obtain ⟨yg, yt, yf, yb, yl, yc⟩ := y
        unfold rv at OF2
        simp only at OF2
        go_wp2_with fail
        generalize wr.alloc (.cells #[.int .i64 sq, .int .i64 sg, .int .i64 sn, .int .i64 sa] 29) = W2 at *
        generalize wr.heap.size = X at *
        refine (OF1.out _ D2.out.tx).mono ?_
        rintro r w3 ⟨rfl, b3⟩
        have bA := below_alloc w3 (.cells #[.int .i64 0, .int .i64 0, .int .i64 0, .bool false, .int .i64 0, .int .i64 0] 32)
        have D3 := hide (D2.out.below (btr b3 bA))
        have X3 := hide (heap_below X2.out b3)
        have x0 : w3.cell? ⟨X, 0, none⟩ = some (.int .i64 sq) := cell_of X3.out 0
        have x1 : w3.cell? ⟨X, 1, none⟩ = some (.int .i64 sg) := cell_of X3.out 1
        have x2 : w3.cell? ⟨X, 2, none⟩ = some (.int .i64 sn) := cell_of X3.out 2
        have x3 : w3.cell? ⟨X, 3, none⟩ = some (.int .i64 sa) := cell_of X3.out 3
        have hX3 := heap_lt X3.out
        clear b3 bA
        go_wp2_with fail
        generalize w3.alloc (.cells #[.int .i64 0, .int .i64 0, .int .i64 0, .bool false, .int .i64 0, .int .i64 0] 32) = W3 at *
        refine (DO.out _ _ _ D3.out).mono ?_
        rintro r w4 ⟨rfl, F4, H4, d4, -, -, -⟩
        have D4 := hide d4
        clear d4
        go_wp2_with fail
        refine (OF2.out _ D4.out.tx).mono ?_
        rintro r w5 ⟨rfl, b5⟩
        have D5 := hide (D4.out.below (btr b5 (below_alloc w5 (.cells #[.int .i64 yg, .int .i64 yt, .int .i64 yf, .bool yb, .int .i64 yl, .int .i64 yc] 32))))
        clear b5
        go_wp2_with fail
        go_roundw
        case rel => exact ⟨k + 1, l', m', F4, H4, by omega, by go_num, R2.out, L2.out, D5.out⟩
        case measure => simp [intOf]; omega
      | true =>
        obtain ⟨x, -, -, hf⟩ := RL.out.gd.srt.some hh
        obtain ⟨y, e1, e2, sy⟩ := SS.out x hf
        rw [hh, hf] at OF1
        rw [e1, e2] at OF2
        unfold fdR at OF1 OF2
        simp only [Option.getD_some] at OF1 OF2
        have EQ : ∀ u, x.b = true → (Op.equalIn 10000 32 (rv x) (rv y)).run Try.prog u = .ok true u := fun u hb => by
          rw [sy.2.2.2 hb, eqR, rdb_self]
        obtain ⟨s1, s2, s3, -⟩ := sy
        clear SS FN hh hf e1 e2
        obtain ⟨xg, xt, xf, xb, xl, xc⟩ := x
        obtain ⟨yg, yt, yf, yb, yl, yc⟩ := y
        unfold rv at OF1 OF2 EQ
        simp only at OF1 OF2 EQ s1 s2 s3
        subst s1 s2 s3
        have EQ2 : xb = true → ∀ u, (Op.equalIn 10000 32 (.agg #[.int .i64 yg, .int .i64 yt, .int .i64 yf, .bool xb, .int .i64 xl, .int .i64 xc]) (.agg #[.int .i64 yg, .int .i64 yt, .int .i64 yf, .bool yb, .int .i64 yl, .int .i64 yc])).run Try.prog u = .ok true u := fun hb u => EQ u hb
        clear EQ
        have EH := hide EQ2
        clear EQ2
        go_wp2_with fail
        generalize wr.alloc (.cells #[.int .i64 sq, .int .i64 sg, .int .i64 sn, .int .i64 sa] 29) = W2 at *
        generalize wr.heap.size = X at *
        refine (OF1.out _ D2.out.tx).mono ?_
        rintro r w3 ⟨rfl, b3⟩
        have bA := below_alloc w3 (.cells #[.int .i64 yg, .int .i64 yt, .int .i64 yf, .bool xb, .int .i64 xl, .int .i64 xc] 32)
        have A3 := hide (heap_new w3 (.cells #[.int .i64 yg, .int .i64 yt, .int .i64 yf, .bool xb, .int .i64 xl, .int .i64 xc] 32))
        have NA : Hid (¬ F w3.heap.size ∧ ¬ H w3.heap.size) := ⟨fun e => by have := (D2.out.below b3).p.bd _ e; omega, fun e => by have := (D2.out.below b3).r.bd _ e; omega⟩
        have D3 := hide (D2.out.below (btr b3 bA))
        have X3 := hide (heap_below X2.out b3)
        have x0 : w3.cell? ⟨X, 0, none⟩ = some (.int .i64 sq) := cell_of X3.out 0
        have x1 : w3.cell? ⟨X, 1, none⟩ = some (.int .i64 sg) := cell_of X3.out 1
        have x2 : w3.cell? ⟨X, 2, none⟩ = some (.int .i64 sn) := cell_of X3.out 2
        have x3 : w3.cell? ⟨X, 3, none⟩ = some (.int .i64 sa) := cell_of X3.out 3
        have hX3 := heap_lt X3.out
        clear b3 bA
        go_wp2_with fail
        generalize w3.alloc (.cells #[.int .i64 yg, .int .i64 yt, .int .i64 yf, .bool xb, .int .i64 xl, .int .i64 xc] 32) = W3 at *
        generalize w3.heap.size = A at *
        refine (DO.out _ _ _ D3.out).mono ?_
        rintro r w4 ⟨rfl, F4, H4, d4, r4, -, -⟩
        have D4 := hide d4
        have A4 : Hid (w4.heap[A]? = some (.cells #[.int .i64 yg, .int .i64 yt, .int .i64 yf, .bool xb, .int .i64 xl, .int .i64 xc] 32 (0, 0))) := (r4.2 A (heap_lt A3.out) NA.out.1 NA.out.2).trans A3.out
        clear d4 r4 A3 NA x0 x1 x2 x3 hX3
        go_wp2_with fail
        refine (OF2.out _ D4.out.tx).mono ?_
        rintro r w5 ⟨rfl, b5⟩
        have A5 := hide (heap_below A4.out b5)
        have a0 : w5.cell? ⟨A, 0, none⟩ = some (.int .i64 yg) := cell_of A5.out 0
        have a1 : w5.cell? ⟨A, 1, none⟩ = some (.int .i64 yt) := cell_of A5.out 1
        have a2 : w5.cell? ⟨A, 2, none⟩ = some (.int .i64 yf) := cell_of A5.out 2
        have a3 : w5.cell? ⟨A, 3, none⟩ = some (.bool xb) := cell_of A5.out 3
        have a4 : w5.cell? ⟨A, 4, none⟩ = some (.int .i64 xl) := cell_of A5.out 4
        have a5 : w5.cell? ⟨A, 5, none⟩ = some (.int .i64 xc) := cell_of A5.out 5
        have hA5 := heap_lt A5.out
        have D5 := hide (D4.out.below (btr b5 (below_alloc w5 (.cells #[.int .i64 yg, .int .i64 yt, .int .i64 yf, .bool yb, .int .i64 yl, .int .i64 yc] 32))))
        clear b5
        cases xb
        · clear EH
          go_wp2_with fail
          go_roundw
          case rel => exact ⟨k + 1, l', m', F4, H4, by omega, by go_num, R2.out, L2.out, D5.out⟩
          case measure => simp [intOf]; omega
        · have EQ := EH.out rfl
          clear EH
          go_wp2_with fail
          go_roundw
          case rel => exact ⟨k + 1, l', m', F4, H4, by omega, by go_num, R2.out, L2.out, D5.out⟩
          case measure => simp [intOf]; omega
    · have hlt' : ¬ ((k : Int) < (L.length : Int)) := by omega
      go_wp2_with fail
      refine (TU.out _).mono ?_
      rintro r w2 ⟨rfl, b2⟩
      have B2 := hide (btr DX.out.b b2)
      clear b2
      go_wp2_with fail
      go_ret
      exact ⟨rfl, B2.out⟩

/-! ### the row -/
set_option maxRecDepth 100000 in
theorem lifted (os : Os) (started : os.Started) (H : Type) (enc : TypeId × Value → H) :
    ReturnsInHanded {} Try.checked os 6 .any (Rows.remapStaysSpec.pre6 enc Try.prog Try.f6 Rows.remapStaysRow.domain false) (Rows.remapStaysSpec.post enc Try.prog Try.f6 false true false false) := by
  refine returnsInHanded_of_change (C := Try.checked) own started (by kernel_rfl) Try.func6
    (ChangeSpec.witness6 (enc := enc) (C := Try.checked) false ⟨#[], #[.slice none 0 0, .int .i64 0], []⟩ 8 (by kernel_rfl) (by kernel_rfl) (by kernel_rfl) (by kernel_rfl)) ?_
  intro W base args ds gs before hval0 hW hcnd _
  have hval : ∀ (j : Nat) t v, Try.f6.params[j]? = some t → args[j]? = some v → Value.okWide Try.prog W .any base t v := hval0
  have hW' := hW
  obtain ⟨p, q, hA0, hV, rfl, hfz, hnd⟩ := hW
  have hA : DataW.TrodAll enc Try.prog W 0 (fun _ => true) true Try.f6.params.toList args.toList ds p := hA0
  rw [Try.params6] at hA hval
  obtain ⟨v0, vs0, d0, ds0, p0, q0, hargs, rfl, rfl, h0, r0⟩ := trodAll_cons hA
  obtain ⟨v1, vs1, d1, ds1, p1, q1, rfl, rfl, rfl, h1, r1⟩ := trodAll_cons r0
  obtain ⟨rfl, rfl, rfl⟩ := trodAll_nil r1
  obtain rfl : args = #[v0, v1] := by cases args; simp_all
  obtain ⟨rfl, rfl⟩ := trodVars_none hV
  obtain ⟨oa0, n0, c0, rfl⟩ := okWide_slice Try.underlying22 (hval 0 22 v0 rfl rfl)
  have k0 := h0
  have lt0 : ∀ x ∈ p0, x.block < W.heap.size := by obtain ⟨m, hm⟩ := k0; exact DataW.trod_lt m _ _ _ hm
  obtain ⟨l0, rfl, A0, C0, M0⟩ := h0.elim fun _ hf => steps_open hf
  obtain ⟨a1, rfl, rfl, rfl, w1⟩ := open_int Try.underlying3 (hval 1 3 v1 rfl rfl) h1
  clear hA0 hval0
  refine (core (w := W) oa0 l0 c0 A0 (Nat.le_trans C0 M0) a1).mono fun e W' ⟨he, bel⟩ => ?_
  subst he
  exact ⟨_, rfl, _, _, _, [], _, [], hW', trodAll_mk1 (shut_bool Try.underlying4 _), (trodAll_cons_mk (Below.trod laidOut (by kernel_rfl) (of_decide_eq_true (by kernel_rfl)) k0 bel lt0) (trodAll_cons_mk (shut_int Try.underlying3 w1) trodAll_mk0)), rfl, bel.frame _, fun h => by cases h⟩

theorem over : Rows.remapStaysRow.holds Try.pinned (OpenSpec.ofChange Rows.remapStaysSpec) :=
  OpenClaim.holds_of_wide 6 Try.f6 rfl rfl rfl rfl rfl rfl rfl ⟨rfl, rfl, rfl, rfl, rfl⟩ rfl rfl rfl rfl rfl (by kernel_rfl) Try.func6 (by kernel_rfl)
    (of_decide_eq_true (by kernel_rfl)) (by unfold Func.isWrapper; first | (rw [if_pos (by decide +kernel)]; kernel_rfl) | (rw [if_neg (by decide +kernel)]; exact ⟨rfl, rfl⟩))
    (fun os started H enc _ => lifted os started H enc)

/-- the statement -/
theorem proved : Rows.RemapStaysSaid := over
#print axioms proved
end Go.Proofs.Ytledfepeoajgoaa.remapStays
