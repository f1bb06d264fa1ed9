/- Of one goroutine's events the earlier are known, if the later are, where its epochs do not fall. -/
import Derived.Test.YtgfnafipfbajcaaUq6
import Derived.ShutString
import Derived.ChangeOld
import Derived.Below
namespace Go.Proofs.Ytgfnafipfbajcaa.queryEarlier
open Go.ChangeShapes Go.WideShapes Go.ChangeAt Go.RowKit
open Go.ChangeMaps (open_string shut_string)
open Qu Ba Rk

theorem own : ownKnob Try.prog.godebug = none := by kernel_rfl
theorem laidOut : laidOutB Try.prog = true := by kernel_rfl

set_option maxRecDepth 100000 in
set_option maxHeartbeats 12800000 in
theorem core {w : World} (x : Lx) (hx : LX w x) (b : Int) :
    Calls Try.prog 5 #[lv_ x, .int .i64 b] w fun r w' => r = .returned (.bool true) ∧ Below w.heap.size w w' := by
  have CU := hide fun u => cut_any u
  have LR := hide fun u => large_any x.oe x.os x.od x.es.length x.ce x.ss.length x.cs x.rs.length x.cd u
  have LG0 := hide hx.1
  have hec := hx.2.1
  clear hx
  have b0 := below_alloc w (.cells #[.slice x.oe x.es.length x.ce, .slice x.os x.ss.length x.cs, .slice x.od x.rs.length x.cd] 26)
  have L0 := hide (LG0.out.below b0)
  have B0 := hide b0
  have H0 := hide (heap_new w (.cells #[.slice x.oe x.es.length x.ce, .slice x.os x.ss.length x.cs, .slice x.od x.rs.length x.cd] 26))
  clear b0 LG0
  cases hlr : lrg x.es.length x.ss.length x.rs.length with
  | true =>
    rw [hlr] at LR
    unfold lv_
    go_enter Try.func5, Try.ntmps5
    go_wp2_with fail
    refine (LR.out _).mono ?_
    rintro r w1 ⟨rfl, b1⟩
    have B1 := hide (btr B0.out b1)
    clear b1
    go_wp2_with fail
    refine (CU.out _).mono ?_
    rintro r w2 ⟨rfl, b2⟩
    have B2 := hide (btr B1.out b2)
    clear b2
    go_wp2_with fail
    go_ret
    exact ⟨rfl, B2.out⟩
  | false =>
    rw [hlr] at LR
    have hsz : x.es.length ≤ 500 ∧ x.ss.length ≤ 500 ∧ x.rs.length ≤ 500 := by
      unfold lrg at hlr
      simp at hlr
      omega
    clear hlr
    have BF := hide fun a u (hu : LG u x.oe x.os x.od x.es x.ss x.rs) => before_any x a b u hu hsz.2.2
    have EX := hide fun (a c : Nat) (xa xc : Ex) (ya yc : Sx) => @earlier_x x a c b xa xc ya yc
    have BL := hide fun a => @bf_len x a b
    unfold lv_ at BF ⊢
    generalize bfB x = fB at BF EX
    generalize hfE : bfE x = fE at BF EX BL
    clear hfE
    obtain ⟨oe, os, od, ce, cs, cd, es, ss, rs⟩ := x
    simp only at *
    obtain ⟨le, hle⟩ : ∃ le, es.length = le := ⟨_, rfl⟩
    obtain ⟨ls, hls⟩ : ∃ ls, ss.length = ls := ⟨_, rfl⟩
    obtain ⟨ld, hld⟩ : ∃ ld, rs.length = ld := ⟨_, rfl⟩
    have HLE := hide hle
    have HLS := hide hls
    rw [hle] at LR BF hsz hec H0 L0 B0 BL ⊢
    rw [hls] at LR BF hsz H0 L0 B0 BL ⊢
    rw [hld] at LR BF hsz H0 L0 B0 ⊢
    have hle5 := hsz.1
    clear hle hls hld hsz
    go_enter Try.func5, Try.ntmps5
    go_wp2_with fail
    generalize w.alloc (.cells #[.slice oe le ce, .slice os ls cs, .slice od ld cd] 26) = W0 at *
    generalize hX : w.heap.size = X at *
    have HX := hide hX
    clear hX
    refine (LR.out _).mono ?_
    rintro r w1 ⟨rfl, b1⟩
    have B1 := hide b1
    have N1 := hide (heap_below H0.out b1)
    have x0 : w1.cell? ⟨X, 0, none⟩ = some (.slice oe le ce) := cell_of N1.out 0
    clear b1
    go_wp2_with fail
    clear x0
    go_loopw [19] (fun i wr => ∃ k : Nat, k ≤ le ∧ i = .int .i64 k ∧ Below W0.heap.size W0 wr) (fun i _ => le - (intOf i).toNat)
    case atStart => exact ⟨0, Nat.zero_le _, rfl, B1.out⟩
    case round =>
      clear N1 B1
      obtain ⟨k, hk, rfl, bl⟩ := hrel
      have BK := hide bl
      clear bl
      by_cases hlt : k < le
      · have hlt' : (k : Int) < (le : Int) := by omega
        obtain ⟨p, hp⟩ : ∃ p, es[k]? = some p := ⟨_, List.getElem?_eq_getElem (by rw [HLE.out]; exact hlt)⟩
        obtain ⟨eb, eo, ee, c0, c1, c2, c3, c4, c5, c6, c7⟩ := (L0.out.below BK.out).ev.read hp
        subst ee
        have HP := hide hp
        have N2 := hide (heap_below H0.out BK.out)
        have x0 : wr.cell? ⟨X, 0, none⟩ = some (.slice (some ⟨eb, eo, none⟩) le ce) := cell_of N2.out 0
        have x1 : wr.cell? ⟨X, 1, none⟩ = some (.slice os ls cs) := cell_of N2.out 1
        have x2 : wr.cell? ⟨X, 2, none⟩ = some (.slice od ld cd) := cell_of N2.out 2
        have hXl := heap_lt N2.out
        have bA := below_alloc wr (.cells #[.int .i64 p.k, .int .i64 p.g, .int .i64 p.c, .int .i64 p.a, .int .i64 p.v, .int .i64 p.m, .bool p.s, .bool p.o] 50)
        have A3 := hide (heap_new wr (.cells #[.int .i64 p.k, .int .i64 p.g, .int .i64 p.c, .int .i64 p.a, .int .i64 p.v, .int .i64 p.m, .bool p.s, .bool p.o] 50))
        have B3 := hide (btr BK.out bA)
        have N3 := hide (heap_below N2.out bA)
        clear hp bA BK
        have BFa := hide (BF.out (k : Int) _ (L0.out.below B3.out))
        have EXk := hide fun (c : Nat) => EX.out k c
        have BLk := hide (BL.out (k : Int))
        generalize fB (k : Int) b = zB at BFa EXk
        generalize fE (k : Int) b = zE at BFa EXk BLk
        by_cases hz : zE = 0 ∧ zB = true
        · obtain ⟨rfl, rfl⟩ := hz
          have hsl : ls = le := BLk.out rfl
          subst hsl
          obtain ⟨pk, pg, pc, pa, pv, pm, ps, po⟩ := p
          simp only at *
          go_wp2_with fail
          generalize wr.alloc (.cells #[.int .i64 pk, .int .i64 pg, .int .i64 pc, .int .i64 pa, .int .i64 pv, .int .i64 pm, .bool ps, .bool po] 50) = W3 at *
          generalize wr.heap.size = R at *
          refine BFa.out.mono ?_
          rintro r w4 ⟨rfl, b4⟩
          have B4 := hide (btr B3.out b4)
          have N4 := hide (heap_below N3.out b4)
          have A4 := hide (heap_below A3.out b4)
          have x0 : w4.cell? ⟨X, 0, none⟩ = some (.slice (some ⟨eb, eo, none⟩) ls ce) := cell_of N4.out 0
          have hkc : (k : Int) ≤ (ce : Int) := by omega
          clear b4 x1 x2 hXl BFa
          go_wp2_with fail
          clear x0
          go_loopw [42] (fun i wr => ∃ j : Nat, j ≤ k ∧ i = .int .i64 j ∧ Below w4.heap.size w4 wr) (fun i _ => k - (intOf i).toNat)
          case atStart => exact ⟨0, Nat.zero_le _, rfl, Below.refl _ _⟩
          case round =>
            obtain ⟨j, hj, rfl, bl⟩ := hrel
            have BJ := hide (btr B4.out bl)
            have N5 := hide (heap_below N4.out bl)
            have A5 := hide (heap_below A4.out bl)
            have BJ4 := hide bl
            clear bl
            by_cases hjt : j < k
            · have hjt' : (j : Int) < (k : Int) := by omega
              obtain ⟨q, hq⟩ : ∃ q, es[j]? = some q := ⟨_, List.getElem?_eq_getElem (by rw [HLE.out]; omega)⟩
              obtain ⟨eb2, eo2, ee2, d0, d1, d2, d3, d4, d5, d6, d7⟩ := (L0.out.below BJ.out).ev.read hq
              cases ee2
              obtain ⟨yc, hyc⟩ : ∃ y, ss[j]? = some y := ⟨_, List.getElem?_eq_getElem (by rw [HLS.out]; omega)⟩
              obtain ⟨ya, hya⟩ : ∃ y, ss[k]? = some y := ⟨_, List.getElem?_eq_getElem (by rw [HLS.out]; omega)⟩
              have EXj := hide (EXk.out j _ q ya yc HP.out hq hya hyc trivial trivial hjt)
              have bA := below_alloc wr (.cells #[.int .i64 q.k, .int .i64 q.g, .int .i64 q.c, .int .i64 q.a, .int .i64 q.v, .int .i64 q.m, .bool q.s, .bool q.o] 50)
              have Q6 := hide (heap_new wr (.cells #[.int .i64 q.k, .int .i64 q.g, .int .i64 q.c, .int .i64 q.a, .int .i64 q.v, .int .i64 q.m, .bool q.s, .bool q.o] 50))
              have B6 := hide (btr BJ.out bA)
              have B64 := hide (btr BJ4.out bA)
              have N6 := hide (heap_below N5.out bA)
              have A6 := hide (heap_below A5.out bA)
              obtain ⟨sb, so, es2, t0, -, -, -, u0, u1⟩ := (L0.out.below B6.out).st.read hyc
              obtain ⟨sb2, so2, es3, t1, -, -, -, v0, v1⟩ := (L0.out.below B6.out).st.read hya
              rw [es2] at es3
              cases es3
              subst es2
              have CC := hide fun u => Ep.clk_any yc.e u0 u1 u
              have CA := hide fun u => Ep.clk_any ya.e v0 v1 u
              have hjs : decide ((ls : Int) ≤ (j : Int)) = false := decide_eq_false (by omega)
              have hks : decide ((ls : Int) ≤ (k : Int)) = false := decide_eq_false (by omega)
              have hjs2 : decide (ls ≤ j) = false := decide_eq_false (by omega)
              have hks2 : decide (ls ≤ k) = false := decide_eq_false (by omega)
              have hjl : (j : Int) < (ls : Int) := by omega
              clear hq hyc hya bA u0 u1 v0 v1
              generalize yc.e = ce2 at *
              generalize ya.e = ae2 at *
              obtain ⟨qk, qg, qc, qa, qv, qm, qs, qo⟩ := q
              simp only at *
              have BFj := hide fun u (hu : LG u (some ⟨eb, eo, none⟩) (some ⟨sb, so, none⟩) od es ss rs) => BF.out (j : Int) u hu
              generalize fB (j : Int) b = jB at BFj EXj
              generalize fE (j : Int) b = jE at BFj EXj
              cases hgq : (qg != pg)
              · have hgq' : qg = pg := by simpa using hgq
                cases hcl : decide (Ep.clkOf ae2 < Ep.clkOf ce2)
                · have HE : Hid (jE = 0 → jB = true) := EXj.out hgq' (by simpa using hcl)
                  clear EXj hgq'
                  go_wp2_with fail
                  generalize wr.alloc (.cells #[.int .i64 qk, .int .i64 qg, .int .i64 qc, .int .i64 qa, .int .i64 qv, .int .i64 qm, .bool qs, .bool qo] 50) = W6 at *
                  generalize wr.heap.size = R2 at *
                  have y1 : W6.cell? ⟨R2, 1, none⟩ = some (.int .i64 qg) := cell_of Q6.out 1
                  have y2 : W6.cell? ⟨R, 1, none⟩ = some (.int .i64 pg) := cell_of A6.out 1
                  have y3 : W6.cell? ⟨X, 1, none⟩ = some (.slice (some ⟨sb, so, none⟩) ls cs) := cell_of N6.out 1
                  try simp only [List.append_eq, List.cons_append, List.nil_append]
                  go_quiet ((first | (go_at_call_of 15 (Value.int IntKind.u64 ce2); exact Calls.quiet_of_same (CC.out _)) | (go_at_call_of 15 (Value.int IntKind.u64 ae2); exact Calls.quiet_of_same (CA.out _))))
                  have N7 := hide (heap_below N6.out (bdrew W6 nq))
                  have B7 := hide (btr B6.out (bdrew W6 nq))
                  have B74 := hide (btr B64.out (bdrew W6 nq))
                  have z0 : (W6.drewN nq).cell? ⟨X, 0, none⟩ = some (.slice (some ⟨eb, eo, none⟩) ls ce) := cell_of N7.out 0
                  have z1 : (W6.drewN nq).cell? ⟨X, 1, none⟩ = some (.slice (some ⟨sb, so, none⟩) ls cs) := cell_of N7.out 1
                  have z2 : (W6.drewN nq).cell? ⟨X, 2, none⟩ = some (.slice od ld cd) := cell_of N7.out 2
                  generalize W6.drewN nq = W7 at *
                  go_wp2_with fail
                  refine (BFj.out _ (L0.out.below B7.out)).mono ?_
                  rintro r w8 ⟨rfl, b8⟩
                  have B8 := hide (btr B74.out b8)
                  clear b8
                  by_cases hj0 : jE = 0
                  · have hjB := HE.out hj0
                    subst hj0 hjB
                    go_wp2_with fail
                    go_roundw
                    case rel => exact ⟨j + 1, by omega, by go_num, B8.out⟩
                    case measure => simp [intOf]; omega
                  · have hj0' : (jE == 0) = false := beq_eq_false_iff_ne.2 hj0
                    clear hj0
                    go_wp2_with fail
                    go_roundw
                    case rel => exact ⟨j + 1, by omega, by go_num, B8.out⟩
                    case measure => simp [intOf]; omega
                · clear EXj BFj hgq'
                  go_wp2_with fail
                  generalize wr.alloc (.cells #[.int .i64 qk, .int .i64 qg, .int .i64 qc, .int .i64 qa, .int .i64 qv, .int .i64 qm, .bool qs, .bool qo] 50) = W6 at *
                  generalize wr.heap.size = R2 at *
                  have y1 : W6.cell? ⟨R2, 1, none⟩ = some (.int .i64 qg) := cell_of Q6.out 1
                  have y2 : W6.cell? ⟨R, 1, none⟩ = some (.int .i64 pg) := cell_of A6.out 1
                  have y3 : W6.cell? ⟨X, 1, none⟩ = some (.slice (some ⟨sb, so, none⟩) ls cs) := cell_of N6.out 1
                  try simp only [List.append_eq, List.cons_append, List.nil_append]
                  go_quiet ((first | (go_at_call_of 15 (Value.int IntKind.u64 ce2); exact Calls.quiet_of_same (CC.out _)) | (go_at_call_of 15 (Value.int IntKind.u64 ae2); exact Calls.quiet_of_same (CA.out _))))
                  go_wp2_with fail
                  go_roundw
                  case rel => exact ⟨j + 1, by omega, by go_num, btr B64.out (bdrew _ _)⟩
                  case measure => simp [intOf]; omega
              · clear EXj BFj
                go_wp2_with fail
                generalize wr.alloc (.cells #[.int .i64 qk, .int .i64 qg, .int .i64 qc, .int .i64 qa, .int .i64 qv, .int .i64 qm, .bool qs, .bool qo] 50) = W6 at *
                generalize wr.heap.size = R2 at *
                have y1 : W6.cell? ⟨R2, 1, none⟩ = some (.int .i64 qg) := cell_of Q6.out 1
                have y2 : W6.cell? ⟨R, 1, none⟩ = some (.int .i64 pg) := cell_of A6.out 1
                try simp only [List.append_eq, List.cons_append, List.nil_append]
                go_quiet (fail)
                go_wp2_with fail
                go_roundw
                case rel => exact ⟨j + 1, by omega, by go_num, btr B64.out (bdrew _ _)⟩
                case measure => simp [intOf]; omega
            · have hjt' : ¬ ((j : Int) < (k : Int)) := by omega
              go_wp2_with fail
              go_roundw
              case rel => exact ⟨k + 1, by omega, by go_num, BJ.out⟩
              case measure => simp [intOf]; omega
        · obtain ⟨pk, pg, pc, pa, pv, pm, ps, po⟩ := p
          simp only at *
          clear EXk BLk
          by_cases he : zE = 0
          · have hb : zB = false := by cases zB <;> simp_all
            subst he hb
            go_wp2_with fail
            generalize wr.alloc (.cells #[.int .i64 pk, .int .i64 pg, .int .i64 pc, .int .i64 pa, .int .i64 pv, .int .i64 pm, .bool ps, .bool po] 50) = W3 at *
            refine BFa.out.mono ?_
            rintro r w4 ⟨rfl, b4⟩
            have B4 := hide (btr B3.out b4)
            clear b4
            go_wp2_with fail
            go_roundw
            case rel => exact ⟨k + 1, by omega, by go_num, B4.out⟩
            case measure => simp [intOf]; omega
          · have he' : (zE != 0) = true := by simpa using he
            clear he hz
            go_wp2_with fail
            generalize wr.alloc (.cells #[.int .i64 pk, .int .i64 pg, .int .i64 pc, .int .i64 pa, .int .i64 pv, .int .i64 pm, .bool ps, .bool po] 50) = W3 at *
            refine BFa.out.mono ?_
            rintro r w4 ⟨rfl, b4⟩
            have B4 := hide (btr B3.out b4)
            clear b4
            go_wp2_with fail
            go_roundw
            case rel => exact ⟨k + 1, by omega, by go_num, B4.out⟩
            case measure => simp [intOf]; omega
      · have hlt' : ¬ ((k : Int) < (le : Int)) := by omega
        go_wp2_with fail
        refine (CU.out _).mono ?_
        rintro r w2 ⟨rfl, b2⟩
        have B2 : Hid (Below w.heap.size w w2) := by
          show Below w.heap.size w w2
          rw [HX.out]
          have sz : X ≤ W0.heap.size := by rw [← HX.out]; exact B0.out.size
          exact (B0.out.trans (BK.out.mono sz)).trans (b2.mono (Nat.le_trans sz BK.out.size))
        clear b2
        go_wp2_with fail
        go_ret
        exact ⟨rfl, B2.out⟩

/-! ### the row -/
set_option maxRecDepth 100000 in
theorem lifted (os : Os) (started : os.Started) (H : Type) (enc : TypeId × Value → H) :
    ReturnsInHanded {} Try.checked os 5 .any (Rows.queryEarlierSpec.pre6 enc Try.prog Try.f5 Rows.queryEarlierRow.domain false) (Rows.queryEarlierSpec.post enc Try.prog Try.f5 false true false false) := by
  refine returnsInHanded_of_change (C := Try.checked) own started (by kernel_rfl) Try.func5
    (ChangeSpec.witness6 (enc := enc) (C := Try.checked) false ⟨#[], #[.agg #[.slice none 0 0, .slice none 0 0, .slice none 0 0], .int .i64 0], []⟩ 8 (by kernel_rfl) (by kernel_rfl) (by kernel_rfl) (by kernel_rfl)) ?_
  intro W base args ds gs before hval0 hW hcnd _
  have hval : ∀ (j : Nat) t v, Try.f5.params[j]? = some t → args[j]? = some v → Value.okWide Try.prog W .any base t v := hval0
  have hW' := hW
  obtain ⟨p, q, hA0, hV, rfl, hfz, hnd⟩ := hW
  have hA : DataW.TrodAll enc Try.prog W 0 (fun _ => true) true Try.f5.params.toList args.toList ds p := hA0
  rw [Try.params5] at hA hval
  obtain ⟨v0, vs0, d0, ds0, p0, q0, hargs, rfl, rfl, h0, r0⟩ := trodAll_cons hA
  obtain ⟨v1, vs1, d1, ds1, p1, q1, rfl, rfl, rfl, h1, r1⟩ := trodAll_cons r0
  obtain ⟨rfl, rfl, rfl⟩ := trodAll_nil r1
  obtain rfl : args = #[v0, v1] := by cases args; simp_all
  obtain ⟨rfl, rfl⟩ := trodVars_none hV
  have k0 := h0
  have lt0 : ∀ x ∈ p0, x.block < W.heap.size := by obtain ⟨m, hm⟩ := k0; exact DataW.trod_lt m _ _ _ hm
  obtain ⟨x0, rfl, X0⟩ := h0.elim fun _ hf => log_open hf
  obtain ⟨a1, rfl, rfl, rfl, w1⟩ := open_int Try.underlying3 (hval 1 3 v1 rfl rfl) h1
  clear hA0 hval0
  refine (core (w := W) x0 X0 a1).mono fun e W' ⟨he, bel⟩ => ?_
  subst he
  exact ⟨_, rfl, _, _, _, [], _, [], hW', trodAll_mk1 (shut_bool Try.underlying4 _), (trodAll_cons_mk (Below.trod laidOut (by kernel_rfl) (of_decide_eq_true (by kernel_rfl)) k0 bel lt0) (trodAll_cons_mk (shut_int Try.underlying3 w1) trodAll_mk0)), rfl, bel.frame _, fun h => by cases h⟩

theorem over : Rows.queryEarlierRow.holds Try.pinned (OpenSpec.ofChange Rows.queryEarlierSpec) :=
  OpenClaim.holds_of_wide 5 Try.f5 rfl rfl rfl rfl rfl rfl rfl ⟨rfl, rfl, rfl, rfl, rfl⟩ rfl rfl rfl rfl rfl (by kernel_rfl) Try.func5 (by kernel_rfl)
    (of_decide_eq_true (by kernel_rfl)) (by unfold Func.isWrapper; first | (rw [if_pos (by decide +kernel)]; kernel_rfl) | (rw [if_neg (by decide +kernel)]; exact ⟨rfl, rfl⟩))
    (fun os started H enc _ => lifted os started H enc)

/-- the statement -/
theorem proved : Rows.QueryEarlierSaid := over
#print axioms proved
end Go.Proofs.Ytgfnafipfbajcaa.queryEarlier
