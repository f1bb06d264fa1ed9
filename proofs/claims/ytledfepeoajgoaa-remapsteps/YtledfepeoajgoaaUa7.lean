/- Package remap, over this seat's program: Of, Owner, All. -/
import Derived.Test.YtledfepeoajgoaaUa6
import Derived.Lib.SliceRun
namespace Go.Proofs.Ytledfepeoajgoaa
open Go.ChangeShapes Go.WideShapes Go.ChangeAt Go.RowKit
namespace Rk
open Ba

theorem six_set {w : World} {b : Nat} {x0 x1 x2 x3 x4 x5 : Value} {t : TypeId} (h : w.heap[b]? = some (.cells #[x0, x1, x2, x3, x4, x5] t (0, 0))) (u0 u1 u2 u3 u4 u5 : Value) : ((((((w.setCell ⟨b, 0, none⟩ u0).setCell ⟨b, 1, none⟩ u1).setCell ⟨b, 2, none⟩ u2).setCell ⟨b, 3, none⟩ u3).setCell ⟨b, 4, none⟩ u4).setCell ⟨b, 5, none⟩ u5).heap[b]? = some (.cells #[u0, u1, u2, u3, u4, u5] t (0, 0)) := by
  rw [Ba.heap_setCell_same (Ba.heap_setCell_same (Ba.heap_setCell_same (Ba.heap_setCell_same (Ba.heap_setCell_same (Ba.heap_setCell_same h u0) u1) u2) u3) u4) u5]
  rfl
theorem below_six {w a : World} {Z : Nat} (h : Below w.heap.size w a) (hZ : w.heap.size ≤ Z) (u0 u1 u2 u3 u4 u5 : Value) : Below w.heap.size w ((((((a.setCell ⟨Z, 0, none⟩ u0).setCell ⟨Z, 1, none⟩ u1).setCell ⟨Z, 2, none⟩ u2).setCell ⟨Z, 3, none⟩ u3).setCell ⟨Z, 4, none⟩ u4).setCell ⟨Z, 5, none⟩ u5) :=
  (((((h.setCell hZ _).setCell hZ _).setCell hZ _).setCell hZ _).setCell hZ _).setCell hZ _
def fdR (o : Option Rd) : Rd := o.getD zr
set_option maxHeartbeats 1600000 in
theorem of_nil (g : Int) (w : World) :
    Calls Try.prog 11 #[.pointer none, .int .i64 g] w fun r w' => r = .returned (.tuple #[rv zr, .bool false]) ∧ Below w.heap.size w w' := by
  unfold rv zr
  simp only
  have HZ := hide (heap_new w (.cells #[.int .i64 0, .int .i64 0, .int .i64 0, .bool false, .int .i64 0, .int .i64 0] 32))
  go_enter Try.func11, Try.ntmps11
  go_wp2_with fail
  refine (find_nil g _).mono ?_
  rintro r w1 ⟨rfl, e1⟩
  obtain rfl := e1.symm
  go_wp2_with fail
  exact bodyPost_ret (results_row2 Try.results11 _ _ _ _ _ rfl rfl (loadVar_r (heap_new _ _) rfl)) rfl ⟨rfl, below_alloc _ _⟩
set_option maxRecDepth 100000 in
set_option maxHeartbeats 3200000 in
theorem of_any (B : Nat) (F : Nat → Prop) (l : List Rd) (g : Int) (w : World) (h : PT w B F l) (hg : Gd l) (hl : l.length ≤ 10000) :
    Calls Try.prog 11 #[.pointer (some ⟨B, 0, none⟩), .int .i64 g] w fun r w' => r = .returned (.tuple #[rv (fdR (fd l g)), .bool (hs l g)]) ∧ Below w.heap.size w w' := by
  obtain ⟨oa, c, h⟩ := h
  have BL := hide (below_alloc w (.cells #[.int .i64 0, .int .i64 0, .int .i64 0, .bool false, .int .i64 0, .int .i64 0] 32))
  have H1 := hide (h.below BL.out)
  have HZ := hide (heap_new w (.cells #[.int .i64 0, .int .i64 0, .int .i64 0, .bool false, .int .i64 0, .int .i64 0] 32))
  have FI := hide (find_any B F oa c l g _ H1.out hg.srt (by omega))
  have hl2 : l.length ≤ 9223372036854775807 := by omega
  cases hh : hs l g with
  | false =>
    rw [fd_none hh]
    rw [hh] at FI
    unfold rv fdR zr
    simp only [Option.getD_none]
    generalize ps l g = P at FI
    clear h hg hl hh H1
    go_enter Try.func11, Try.ntmps11
    go_wp2_with fail
    generalize w.alloc (.cells #[.int .i64 0, .int .i64 0, .int .i64 0, .bool false, .int .i64 0, .int .i64 0] 32) = W at FI BL HZ ⊢
    refine FI.out.mono ?_
    rintro r w1 ⟨rfl, b1⟩
    have B1 := hide (btr BL.out b1)
    have HZ1 := hide (heap_below HZ.out b1)
    have z0 := cell_of HZ1.out 0
    have z1 := cell_of HZ1.out 1
    have z2 := cell_of HZ1.out 2
    have z3 := cell_of HZ1.out 3
    have z4 := cell_of HZ1.out 4
    have z5 := cell_of HZ1.out 5
    simp at z0 z1 z2 z3 z4 z5
    have y0 := frozen_of HZ1.out 0
    have y1 := frozen_of HZ1.out 1
    have y2 := frozen_of HZ1.out 2
    have y3 := frozen_of HZ1.out 3
    have y4 := frozen_of HZ1.out 4
    have y5 := frozen_of HZ1.out 5
    clear b1
    go_wp2_with fail
    exact bodyPost_ret (results_row2 Try.results11 _ _ _ _ _ rfl rfl (loadVar_r (six_set HZ1.out _ _ _ _ _ _) rfl)) rfl ⟨rfl, below_six B1.out (Nat.le_refl _) _ _ _ _ _ _⟩
  | true =>
    obtain ⟨x, hx, hxg, hf⟩ := hg.srt.some hh
    rw [hf]
    rw [hh] at FI
    unfold fdR rv
    simp only [Option.getD_some]
    have hpl := (List.getElem?_eq_some_iff.1 hx).1
    generalize ps l g = P at FI hx hpl
    have hpl' : (P : Int) < (l.length : Int) := by omega
    obtain ⟨m, rfl, -⟩ := h.at.1 P x hx
    have HX := hide hx
    clear h hg hl hh hx hf hxg
    go_enter Try.func11, Try.ntmps11
    go_wp2_with fail
    generalize w.alloc (.cells #[.int .i64 0, .int .i64 0, .int .i64 0, .bool false, .int .i64 0, .int .i64 0] 32) = W at FI BL HZ H1 ⊢
    refine FI.out.mono ?_
    rintro r w1 ⟨rfl, b1⟩
    have B1 := hide (btr BL.out b1)
    have HZ1 := hide (heap_below HZ.out b1)
    have H2 := hide (H1.out.below b1)
    have z0 := cell_of HZ1.out 0
    have z1 := cell_of HZ1.out 1
    have z2 := cell_of HZ1.out 2
    have z3 := cell_of HZ1.out 3
    have z4 := cell_of HZ1.out 4
    have z5 := cell_of HZ1.out 5
    simp at z0 z1 z2 z3 z4 z5
    have y0 := frozen_of HZ1.out 0
    have y1 := frozen_of HZ1.out 1
    have y2 := frozen_of HZ1.out 2
    have y3 := frozen_of HZ1.out 3
    have y4 := frozen_of HZ1.out 4
    have y5 := frozen_of HZ1.out 5
    have t0 : w1.cell? ⟨B, 0, none⟩ = some (.slice (some ⟨m, 0, none⟩) l.length c) := cell_of H2.out.hp 0
    obtain ⟨m', e', q0, q1, q2, q3, q4, q5⟩ := H2.out.at.1 P x HX.out
    cases e'
    clear b1
    go_wp2_with fail
    exact bodyPost_ret (results_row2 Try.results11 _ _ _ _ _ rfl rfl (loadVar_r (six_set HZ1.out _ _ _ _ _ _) rfl)) rfl ⟨rfl, below_six B1.out (Nat.le_refl _) _ _ _ _ _ _⟩
theorem owner_nil (t a : Int) (w : World) :
    Calls Try.prog 15 #[.pointer none, .int .i64 t, .int .i64 a] w fun r w' => r = .returned (.tuple #[.int .i64 0, .bool false]) ∧ w' = w := by
  go_enter Try.func15, Try.ntmps15
  go_wp2_with fail
  go_ret2
  exact ⟨rfl, rfl⟩
theorem ow_some {l : List Rd} {t a : Int} {k : Nat} {x : Rd} (hx : l[k]? = some x) (h : ∀ (j : Nat) (z : Rd), j < k → l[j]? = some z → hsT z t a = false) (hp : hsT x t a = true) : ow1 l t a = some x := by
  unfold ow1
  induction l generalizing k with
  | nil => simp at hx
  | cons y l ih =>
    cases k with
    | zero => simp at hx; subst hx; simp [hp]
    | succ k =>
      have h0 := h 0 y (by omega) (by simp)
      rw [List.find?_cons, h0]
      exact ih (by simpa using hx) (fun j z hj hz => h (j + 1) z (by omega) (by simpa using hz))
theorem ow_none {l : List Rd} {t a : Int} (h : ∀ (j : Nat) (z : Rd), l[j]? = some z → hsT z t a = false) : ow1 l t a = none := by
  unfold ow1
  rw [List.find?_eq_none]
  intro x hx
  obtain ⟨j, hj, rfl⟩ := List.getElem_of_mem hx
  simp [h j _ (List.getElem?_eq_getElem hj)]
set_option maxRecDepth 100000 in
set_option maxHeartbeats 3200000 in
theorem owner_any (B : Nat) (F : Nat → Prop) (l : List Rd) (t a : Int) (w : World) (h : PT w B F l) (hl : l.length ≤ 10000) :
    Calls Try.prog 15 #[.pointer (some ⟨B, 0, none⟩), .int .i64 t, .int .i64 a] w fun r w' => r = .returned (.tuple #[.int .i64 (owG (ow1 l t a)), .bool (ow1 l t a).isSome]) ∧ Below w.heap.size w w' := by
  obtain ⟨oa, c, h⟩ := h
  have y0 : w.cell? ⟨B, 0, none⟩ = some (.slice oa l.length c) := cell_of h.hp 0
  have HA := hide h.at.1
  have OS := hide (fun (k : Nat) (x : Rd) => @ow_some l t a k x)
  have ON := hide (@ow_none l t a)
  generalize ow1 l t a = O at OS ON ⊢
  obtain ⟨N, hN⟩ : ∃ N, l.length = N := ⟨_, rfl⟩
  have HN := hide hN
  rw [hN] at y0 hl
  clear h hN
  go_enter Try.func15, Try.ntmps15
  go_wp2_with fail
  go_loopw [17] (fun i wr => ∃ k : Nat, k ≤ N ∧ i = .int .i64 k ∧ (∀ (j : Nat) (z : Rd), j < k → l[j]? = some z → hsT z t a = false) ∧ Below w.heap.size w wr) (fun i _ => N - (intOf i).toNat)
  case atStart => exact ⟨0, Nat.zero_le _, rfl, fun j _ hj => absurd hj (Nat.not_lt_zero _), Below.refl _ _⟩
  case round =>
    obtain ⟨k, hk, rfl, hall, bl⟩ := hrel
    have HL := hide hall
    have BL := hide bl
    clear hall bl
    by_cases hlt : k < N
    · have hlt' : (k : Int) < (N : Int) := by omega
      obtain ⟨x, hx⟩ : ∃ x, l[k]? = some x := ⟨_, List.getElem?_eq_getElem (by rw [HN.out]; exact hlt)⟩
      obtain ⟨g, rfl, c0, c1, c2, c3, c4, c5⟩ := (HA.out.below BL.out) k x hx
      have HX := hide hx
      have SI := hide fun u => stays_any x a u
      have NO : Hid (hsT x t a = false → ∀ (j : Nat) (z : Rd), j < k + 1 → l[j]? = some z → hsT z t a = false) := fun hq j z hj hz => by
        by_cases e : j = k
        · rw [e, HX.out] at hz; cases hz; exact hq
        · exact HL.out j z (by omega) hz
      have YES : Hid (hsT x t a = true → O = some x) := OS.out k x HX.out HL.out
      have B2 := hide (btr BL.out (below_alloc wr (.cells #[.int .i64 x.g, .int .i64 x.t, .int .i64 x.f, .bool x.b, .int .i64 x.l, .int .i64 x.c] 32)))
      have X2 := hide (heap_new wr (.cells #[.int .i64 x.g, .int .i64 x.t, .int .i64 x.f, .bool x.b, .int .i64 x.l, .int .i64 x.c] 32))
      unfold hsT at NO YES
      clear hx
      obtain ⟨xg, xt, xf, xb, xl, xc⟩ := x
      unfold rv at SI
      simp only at *
      cases e1 : (xt == t)
      · have NQ := hide (NO.out (by rw [e1]; rfl))
        clear YES NO
        go_wp2_with fail
        go_roundw
        case rel => exact ⟨k + 1, by omega, by go_num, NQ.out, B2.out⟩
        case measure => simp [intOf]; omega
      cases e2 : decide (xf ≤ a)
      · have NQ := hide (NO.out (by rw [e1, e2]; rfl))
        clear YES NO
        go_wp2_with fail
        go_roundw
        case rel => exact ⟨k + 1, by omega, by go_num, NQ.out, B2.out⟩
        case measure => simp [intOf]; omega
      rw [e1, e2, Bool.true_and, Bool.true_and] at NO YES
      generalize st ⟨xg, xt, xf, xb, xl, xc⟩ a = z at SI NO YES
      cases z
      · have NQ := hide (NO.out rfl)
        clear YES NO
        go_wp2_with fail
        generalize wr.alloc (.cells #[.int .i64 xg, .int .i64 xt, .int .i64 xf, .bool xb, .int .i64 xl, .int .i64 xc] 32) = W at *
        refine (SI.out _).mono ?_
        rintro r w2 ⟨rfl, b2⟩
        have B3 := hide (btr B2.out b2)
        clear b2
        go_wp2_with fail
        go_roundw
        case rel => exact ⟨k + 1, by omega, by go_num, NQ.out, B3.out⟩
        case measure => simp [intOf]; omega
      · have hO := YES.out rfl
        clear NO YES
        subst hO
        go_wp2_with fail
        generalize wr.alloc (.cells #[.int .i64 xg, .int .i64 xt, .int .i64 xf, .bool xb, .int .i64 xl, .int .i64 xc] 32) = W at *
        refine (SI.out _).mono ?_
        rintro r w2 ⟨rfl, b2⟩
        have B3 := hide (btr B2.out b2)
        have s0 : w2.cell? ⟨wr.heap.size, 0, none⟩ = some (.int .i64 xg) := cell_of (heap_below X2.out b2) 0
        clear b2
        go_wp2_with fail
        go_ret2
        exact ⟨rfl, B3.out⟩
    · have hlt' : ¬ ((k : Int) < (N : Int)) := by omega
      have hO : O = none := ON.out fun j z hz => HL.out j z (by have := (List.getElem?_eq_some_iff.1 hz).1; rw [HN.out] at this; omega) hz
      subst hO
      go_wp2_with fail
      go_ret2
      exact ⟨rfl, BL.out⟩
theorem ra_cells {w : World} {oa : Option Addr} {l : List Rd} (h : RA w oa l) : ∀ j u, (rc l)[j]? = some u → ∃ b, oa = some ⟨b, 0, none⟩ ∧ w.cell? ⟨b, j, none⟩ = some u := by
  intro j u hj
  have hlt := (List.getElem?_eq_some_iff.1 hj).1
  rw [rc_len] at hlt
  obtain ⟨x, hx⟩ : ∃ x, l[j / 6]? = some x := ⟨_, List.getElem?_eq_getElem (by omega)⟩
  obtain ⟨b, e, c0, c1, c2, c3, c4, c5⟩ := h (j / 6) x hx
  have hd := rc_at l (j / 6) x hx (j % 6) (Nat.mod_lt _ (by decide))
  rw [show j / 6 * 6 + j % 6 = j by omega, hj] at hd
  refine ⟨b, e, ?_⟩
  have hm : j % 6 = 0 ∨ j % 6 = 1 ∨ j % 6 = 2 ∨ j % 6 = 3 ∨ j % 6 = 4 ∨ j % 6 = 5 := by omega
  rcases hm with q | q | q | q | q | q <;> rw [q] at hd <;> simp [cl] at hd <;> subst hd
  · rw [show j = j / 6 * 6 by omega]; exact c0
  · rw [show j = j / 6 * 6 + 1 by omega]; exact c1
  · rw [show j = j / 6 * 6 + 2 by omega]; exact c2
  · rw [show j = j / 6 * 6 + 3 by omega]; exact c3
  · rw [show j = j / 6 * 6 + 4 by omega]; exact c4
  · rw [show j = j / 6 * 6 + 5 by omega]; exact c5
theorem own_zero (w : World) (e : TypeId) (n : Nat) : (w.alloc (.cells #[] e)).ownsRow w.heap.size e n (.slice (some ⟨w.heap.size, 0, none⟩) 0 0) 0 [] := by
  refine ⟨by simp, .inr ⟨w.heap.size, 0, #[], rfl, Nat.le_refl _, heap_new _ _, Nat.le_refl _, Nat.zero_le _, by simp, by simp⟩⟩
set_option maxRecDepth 100000 in
set_option maxHeartbeats 1600000 in
theorem clone_any (oa : Option Addr) (l : List Rd) (c : Nat) (w : World) (h : RA w oa l) (hl : l.length ≤ 1000000) :
    Calls Try.prog 23 #[.slice oa l.length c] w fun r w' => ∃ ob d, r = .returned (.slice ob l.length d) ∧ RA w' ob l ∧ Below w.heap.size w w' := by
  have qn : ∀ (w : World) (a : Option Addr) (n c n' c' : Nat), (binOp .eql 41 (.slice a n c) (.slice none n' c')).run Try.prog w = .ok (.bool a.isNone) w := fun w a n c n' c' => Lib.run_eql_slice_nil w _ _ a n c n' c' Try.underlying41
  cases oa with
  | none =>
    have h0 : l.length = 0 := by
      rcases Nat.eq_zero_or_pos l.length with e | e
      · exact e
      · obtain ⟨b, e2, _⟩ := h 0 l[0] (List.getElem?_eq_getElem e)
        cases e2
    obtain rfl := List.eq_nil_of_length_eq_zero h0
    go_enter Try.func23, Try.ntmps23
    go_wp2_with fail
    go_ret
    exact ⟨none, 0, rfl, RA.nil _ _, Below.refl _ _⟩
  | some ad =>
    have HS := hide (ra_cells (h.below (below_alloc w (.cells #[] 32))))
    obtain ⟨i0, hi, hz0, hz1, hz2⟩ := info_p info_r
    have INF := hide (And.intro hi (And.intro hz0 (And.intro hz1 hz2)))
    have ow0 : (w.alloc (.cells #[] 32)).ownsRow w.heap.size 32 6 (.slice (some ⟨w.heap.size, 0, none⟩) 0 0) 0 [] := own_zero w 32 6
    clear h hi hz0 hz1 hz2
    go_enter Try.func23, Try.ntmps23
    go_wp2_with (at_builtin; refine wpList_append_own_at _ rfl _ _ 41 rfl w.heap.size 32 i0 _ 6 48 Try.underlying41 INF.out.1 INF.out.2.1 INF.out.2.2.1 INF.out.2.2.2 rfl (by decide) _ _ _ rfl ow0 ad l.length c (rc l) rfl (rc_len l) ?c1 (rc_one l) ?c3 ?c4 ?c5 ?_)
    case c1 =>
      intro j u hj
      obtain ⟨b, e, hc⟩ := HS.out j u hj
      cases e
      rw [Addr.add_lit, Nat.zero_add]
      exact hc
    case c3 => unfold maxLen; omega
    case c4 => omega
    case c5 => rw [World.size_alloc]; omega
    intro v' w2 ho hg _ hat
    obtain ⟨ob, d, hv, hA, hB⟩ := owns_ra ho
    subst hv
    have B2 : Below w.heap.size w w2 := by
      have ba := below_alloc w (.cells #[] 32)
      refine ⟨hg.os.trans ba.os, hg.tape.trans ba.tape, hg.output.trans ba.output, Nat.le_trans ba.size hg.size, fun x hx => ?_⟩
      refine (hg.block x (by rw [World.size_alloc]; omega) (fun e => ?_)).trans (ba.block x hx)
      have e' : x = w.heap.size := by simpa [Value.ownBlock] using e
      omega
    have BB := hide B2
    have AA := hide hA
    clear B2 hA hB ho hg hat ow0
    go_wp2_with fail
    go_ret
    exact ⟨ob, d, rfl, AA.out, BB.out⟩
theorem all_nil (w : World) :
    Calls Try.prog 14 #[.pointer none] w fun r w' => r = .returned (.slice none 0 0) ∧ w' = w := by
  go_enter Try.func14, Try.ntmps14
  go_wp2_with fail
  go_ret
  exact ⟨rfl, rfl⟩
theorem all_any (B : Nat) (F : Nat → Prop) (l : List Rd) (w : World) (h : PT w B F l) (hl : l.length ≤ 10000) :
    Calls Try.prog 14 #[.pointer (some ⟨B, 0, none⟩)] w fun r w' => ∃ ob d, r = .returned (.slice ob l.length d) ∧ RA w' ob l ∧ Below w.heap.size w w' := by
  obtain ⟨oa, c, h⟩ := h
  have y0 : w.cell? ⟨B, 0, none⟩ = some (.slice oa l.length c) := cell_of h.hp 0
  have CL := hide (clone_any oa l c w h.at.1 (by omega))
  clear h hl
  go_enter Try.func14, Try.ntmps14
  go_wp2_with fail
  refine CL.out.mono ?_
  rintro r w1 ⟨ob, d, rfl, hA, b1⟩
  have B1 := hide b1
  have A1 := hide hA
  clear b1 hA
  go_wp2_with fail
  go_ret
  exact ⟨ob, d, rfl, A1.out, B1.out⟩
end Rk
end Go.Proofs.Ytledfepeoajgoaa
