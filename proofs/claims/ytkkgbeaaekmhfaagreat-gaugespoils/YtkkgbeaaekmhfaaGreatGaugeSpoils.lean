/- What is proved: a run's trace in which a wake, a spawn, a make, an exit, a park, a close or a panic stands twice breaks a rule there at the latest; one in which a read, a write, a default or a Compact does, keeps all; for every script and place; no condition. -/
import Derived.Test.YtkkgbeaaekmhfaaGreatZjGl12
import Derived.Test.YtkkgbeaaekmhfaaGreatQrc
import Derived.ShutString
import Derived.ChangeOld
import Derived.Below
namespace Go.Proofs.YtkkgbeaaekmhfaaGreat.gaugeSpoils
open Go.ChangeShapes Go.WideShapes Go.ChangeAt Go.RowKit
open Go.ChangeMaps (open_string shut_string)
open Lo Ba

theorem own : ownKnob Tryz.prog.godebug = none := by kernel_rfl
theorem laidOut : laidOutB Tryz.prog = true := by kernel_rfl

theorem es_take {w : World} {oa : Option Addr} {l : List En.Ev} (h : Gu.EsAt w oa l) (n : Nat) : Gu.EsAt w oa (l.take n) := fun k e hk => h k e (by
  rw [List.getElem?_take] at hk
  split at hk
  · exact hk
  · cases hk)
theorem es_drop {w : World} {b o : Nat} {l : List En.Ev} (h : Gu.EsAt w (some ⟨b, o, none⟩) l) (n : Nat) : Gu.EsAt w (some ⟨b, o + n * 8, none⟩) (l.drop n) := fun k e hk => by
  rw [List.getElem?_drop] at hk
  obtain ⟨b', o', q, hc⟩ := h (n + k) e hk
  cases q
  refine ⟨b, o + n * 8, rfl, fun j hj => ?_⟩
  rw [← hc j hj]
  congr 2
  omega
theorem kinds {e : En.Ev} (h : En.chk e = 0) : e.k = 1 ∨ e.k = 2 ∨ e.k = 3 ∨ e.k = 4 ∨ e.k = 5 ∨ e.k = 6 ∨ e.k = 7 ∨ e.k = 8 ∨ e.k = 9 ∨ e.k = 10 ∨ e.k = 11 ∨ e.k = 12 ∨ e.k = 13 := by
  unfold En.chk at h
  split at h
  · cases h
  · omega
set_option maxRecDepth 100000 in
set_option maxHeartbeats 12800000 in
theorem core {w : World} (T M : Int) (ps : List (List De.OpD)) (pl dr : List Int) (pa la da : Option Addr) (pc lc dc : Nat) (hS : Sh.SAt w ⟨T, M, ps, pl, dr⟩ pa la da) (_hH : Sh.Held ps) (n : Int) :
    Calls Tryz.prog 5 #[.agg #[.int .i64 T, .int .i64 M, .slice pa ps.length pc, .slice la pl.length lc, .slice da dr.length dc], .int .i64 n] w fun r w' => r = .returned (.bool true) ∧ Below w.heap.size w w' := by
  have LG := hide (large14 T M ps pl dr pa la da pc lc dc (w.alloc (.cells #[.int .i64 T, .int .i64 M, .slice pa ps.length pc, .slice la pl.length lc, .slice da dr.length dc] 25)) (hS.below (below_alloc _ _)))
  have HS := hide hS
  have E0 := hide (heap_new w (.cells #[.int .i64 T, .int .i64 M, .slice pa ps.length pc, .slice la pl.length lc, .slice da dr.length dc] 25))
  have B0 := hide (below_alloc w (.cells #[.int .i64 T, .int .i64 M, .slice pa ps.length pc, .slice la pl.length lc, .slice da dr.length dc] 25))
  clear hS
  go_enter Tryz.func5, Tryz.ntmps5
  go_wp2_with fail
  refine LG.out.mono ?_
  rintro r w1 ⟨⟨b, rfl⟩, b1⟩
  have E1 := hide (heap_below E0.out b1)
  have B1 := hide (btr B0.out b1)
  clear b1 LG E0 B0
  cases b
  case true =>
    go_wp2_with fail
    refine (Gu.exits_any _).mono ?_
    rintro r w2 ⟨rfl, b2⟩
    have B2 := hide (btr B1.out b2)
    clear b2
    go_wp2_with fail
    go_ret
    exact ⟨rfl, B2.out⟩
  case false =>
    obtain ⟨x0, x1, x2, x3, x4⟩ := Sh.sc_cells E1.out
    have RX := hide (run_x2 T M ps pl dr pa la da pc lc dc w1 (HS.out.below B1.out))
    go_wp2_with fail
    refine RX.out.mono ?_
    rintro r w2 ⟨ob, l, d, v, rfl, es2, hd, ok, b2⟩
    have OK := hide ok
    have hl := ok.1
    have B2 := hide (btr B1.out b2)
    have ES2 := hide es2
    clear es2 ok b2 RX x0 x1 x2 x3 x4 E1 B1
    obtain ⟨NL, hNL⟩ : ∃ NL, l.length = NL := ⟨_, rfl⟩
    have HNL := hide hNL
    rw [hNL] at hd hl ⊢
    clear hNL
    by_cases n0 : n < 0
    · have d0 : decide (n < 0) = true := decide_eq_true n0
      go_wp2_with fail
      refine (Gu.exits_any _).mono ?_
      rintro r w4 ⟨rfl, b4⟩
      have B4 := hide (btr B2.out b4)
      clear b4
      go_wp2_with fail
      go_ret
      exact ⟨rfl, B4.out⟩
    have d0 : decide (n < 0) = false := decide_eq_false n0
    by_cases n1 : (NL : Int) ≤ n
    · have d1 : decide ((NL : Int) ≤ n) = true := decide_eq_true n1
      go_wp2_with fail
      refine (Gu.exits_any _).mono ?_
      rintro r w4 ⟨rfl, b4⟩
      have B4 := hide (btr B2.out b4)
      clear b4
      go_wp2_with fail
      go_ret
      exact ⟨rfl, B4.out⟩
    have d1 : decide ((NL : Int) ≤ n) = false := decide_eq_false n1
    obtain ⟨k, rfl⟩ : ∃ k : Nat, n = (k : Int) := ⟨n.toNat, by omega⟩
    have hk : k < NL := by omega
    have hk' : (k : Int) < (NL : Int) := by omega
    have d1' : decide (NL ≤ k) = false := by simp; omega
    have hkd : k + 1 ≤ d := by omega
    have hkd' : (k : Int) + 1 ≤ (d : Int) := by omega
    have hkd2 : ¬ (d = k) := by omega
    have hkd3 : (k : Int) ≤ (NL : Int) := by omega
    obtain ⟨e, he⟩ : ∃ e, l[k]? = some e := ⟨_, List.getElem?_eq_getElem (by rw [HNL.out]; omega)⟩
    obtain ⟨bb, oo, rfl, -⟩ := ES2.out k e he
    have t1 : (l.take (k + 1)).length = k + 1 := by rw [List.length_take, HNL.out]; omega
    have t2 : (l.drop k).length = NL - k := by rw [List.length_drop, HNL.out]
    obtain ⟨ea, ca, w3, ap1, ow1, bl1⟩ := app_es w2 w2.heap.size none 0 0 [] (l.take (k + 1)) (k + 1) bb oo d t1.symm (World.ownsRow_nil _ _ _ _) (es_take ES2.out _) (by omega) (Nat.le_refl _)
    rw [Nat.zero_add] at ap1 ow1
    have ES3 := ES2.out.below bl1
    obtain ⟨eb, cb, w4, ap2, ow2, bl2⟩ := app_es w3 w2.heap.size ea (k + 1) ca ([] ++ l.take (k + 1)) (l.drop k) (NL - k) bb (oo + k * 8) (d - k) t2.symm ow1 (es_drop ES3 k) (by omega) bl1.size
    have BL2 := bl1.trans bl2
    have ES4 := ES2.out.below BL2
    obtain ⟨p0, p1, p2, p3, p4, p5, p6, p7⟩ := ES4.read he
    obtain ⟨_, _, q, es5, -, -⟩ := own_es (l := l.take (k + 1) ++ l.drop k) (by
      rw [show (l.take (k + 1) ++ l.drop k).length = k + 1 + (NL - k) by rw [List.length_append, t1, t2]]
      simpa using ow2)
    rw [show (l.take (k + 1) ++ l.drop k).length = k + 1 + (NL - k) by rw [List.length_append, t1, t2]] at q
    cases q
    have GC := hide (Gu.gcheck_any eb (l.take (k + 1) ++ l.drop k) cb w4 (fun i x hx => es5 i x hx) (by rw [List.length_append, t1, t2]; omega))
    rw [show (l.take (k + 1) ++ l.drop k).length = k + 1 + (NL - k) by rw [List.length_append, t1, t2]] at GC
    have HE := hide he
    have CK := hide (OK.out.2.1 e (List.mem_of_getElem? he))
    have B4 := hide (btr B2.out BL2)
    have AP1 := hide ap1
    have AP2 := hide ap2
    clear ap1 ap2 ow1 ow2 bl1 bl2 ES3 ES4 es5 he t1 t2 BL2 n0 n1
    generalize k + 1 + (NL - k) = tl at AP2 GC
    go_wp2_with (at_builtin; first | refine Gu.wpL_app rfl _ _ 28 28 rfl _ _ rfl rfl _ _ AP1.out ?_ | refine Gu.wpL_app rfl _ _ 28 28 rfl _ _ rfl rfl _ _ AP2.out ?_)
    refine GC.out.mono ?_
    rintro r w5 ⟨⟨cn, ca5, rfl, hc⟩, b5⟩
    have B5 := hide (btr B4.out b5)
    have HC := hide hc
    clear b5 hc GC B4
    rcases kinds CK.out with hq | hq | hq | hq | hq | hq | hq | hq | hq | hq | hq | hq | hq
    · obtain ⟨ha, hb⟩ := OK.out.loud HE.out (.inl hq) HC.out
      have da : (cn != 0) = true := by simp [ha]
      have db : decide (ca5 ≤ (k : Int) + 1) = true := decide_eq_true hb
      have f7 : (e.k == 7) = false := by simp [hq]
      have f1 : (e.k == 1) = true := by simp [hq]
      have f2 : (e.k == 2) = false := by simp [hq]
      have f11 : (e.k == 11) = false := by simp [hq]
      have f6 : (e.k == 6) = false := by simp [hq]
      have f5 : (e.k == 5) = false := by simp [hq]
      have f12 : (e.k == 12) = false := by simp [hq]
      have f13 : (e.k == 13) = false := by simp [hq]
      have f9 : (e.k == 9) = false := by simp [hq]
      have f10 : (e.k == 10) = false := by simp [hq]
      have f8 : (e.k == 8) = false := by simp [hq]
      clear hq HC OK HE CK ha hb
      go_wp2_with fail
      refine (Gu.exits_any _).mono ?_
      rintro r w6 ⟨rfl, b6⟩
      have B6 := hide (btr B5.out b6)
      clear b6
      go_wp2_with fail
      go_ret
      exact ⟨rfl, B6.out⟩
    · obtain ⟨ha, hb⟩ := OK.out.loud HE.out (.inr (.inl hq)) HC.out
      have da : (cn != 0) = true := by simp [ha]
      have db : decide (ca5 ≤ (k : Int) + 1) = true := decide_eq_true hb
      have f7 : (e.k == 7) = false := by simp [hq]
      have f1 : (e.k == 1) = false := by simp [hq]
      have f2 : (e.k == 2) = true := by simp [hq]
      have f11 : (e.k == 11) = false := by simp [hq]
      have f6 : (e.k == 6) = false := by simp [hq]
      have f5 : (e.k == 5) = false := by simp [hq]
      have f12 : (e.k == 12) = false := by simp [hq]
      have f13 : (e.k == 13) = false := by simp [hq]
      have f9 : (e.k == 9) = false := by simp [hq]
      have f10 : (e.k == 10) = false := by simp [hq]
      have f8 : (e.k == 8) = false := by simp [hq]
      clear hq HC OK HE CK ha hb
      go_wp2_with fail
      refine (Gu.exits_any _).mono ?_
      rintro r w6 ⟨rfl, b6⟩
      have B6 := hide (btr B5.out b6)
      clear b6
      go_wp2_with fail
      go_ret
      exact ⟨rfl, B6.out⟩
    · have f7 : (e.k == 7) = false := by simp [hq]
      have f1 : (e.k == 1) = false := by simp [hq]
      have f2 : (e.k == 2) = false := by simp [hq]
      have f11 : (e.k == 11) = false := by simp [hq]
      have f6 : (e.k == 6) = false := by simp [hq]
      have f5 : (e.k == 5) = false := by simp [hq]
      have f12 : (e.k == 12) = false := by simp [hq]
      have f13 : (e.k == 13) = false := by simp [hq]
      have f9 : (e.k == 9) = false := by simp [hq]
      have f10 : (e.k == 10) = false := by simp [hq]
      have f8 : (e.k == 8) = false := by simp [hq]
      clear hq HC OK HE CK
      go_wp2_with fail
      refine (Gu.exits_any _).mono ?_
      rintro r w6 ⟨rfl, b6⟩
      have B6 := hide (btr B5.out b6)
      clear b6
      go_wp2_with fail
      go_ret
      exact ⟨rfl, B6.out⟩
    · have f7 : (e.k == 7) = false := by simp [hq]
      have f1 : (e.k == 1) = false := by simp [hq]
      have f2 : (e.k == 2) = false := by simp [hq]
      have f11 : (e.k == 11) = false := by simp [hq]
      have f6 : (e.k == 6) = false := by simp [hq]
      have f5 : (e.k == 5) = false := by simp [hq]
      have f12 : (e.k == 12) = false := by simp [hq]
      have f13 : (e.k == 13) = false := by simp [hq]
      have f9 : (e.k == 9) = false := by simp [hq]
      have f10 : (e.k == 10) = false := by simp [hq]
      have f8 : (e.k == 8) = false := by simp [hq]
      clear hq HC OK HE CK
      go_wp2_with fail
      refine (Gu.exits_any _).mono ?_
      rintro r w6 ⟨rfl, b6⟩
      have B6 := hide (btr B5.out b6)
      clear b6
      go_wp2_with fail
      go_ret
      exact ⟨rfl, B6.out⟩
    · obtain ⟨ha, hb⟩ := OK.out.loud HE.out (.inr (.inr (.inl hq))) HC.out
      have da : (cn != 0) = true := by simp [ha]
      have db : decide (ca5 ≤ (k : Int) + 1) = true := decide_eq_true hb
      have f7 : (e.k == 7) = false := by simp [hq]
      have f1 : (e.k == 1) = false := by simp [hq]
      have f2 : (e.k == 2) = false := by simp [hq]
      have f11 : (e.k == 11) = false := by simp [hq]
      have f6 : (e.k == 6) = false := by simp [hq]
      have f5 : (e.k == 5) = true := by simp [hq]
      have f12 : (e.k == 12) = false := by simp [hq]
      have f13 : (e.k == 13) = false := by simp [hq]
      have f9 : (e.k == 9) = false := by simp [hq]
      have f10 : (e.k == 10) = false := by simp [hq]
      have f8 : (e.k == 8) = false := by simp [hq]
      clear hq HC OK HE CK ha hb
      go_wp2_with fail
      refine (Gu.exits_any _).mono ?_
      rintro r w6 ⟨rfl, b6⟩
      have B6 := hide (btr B5.out b6)
      clear b6
      go_wp2_with fail
      go_ret
      exact ⟨rfl, B6.out⟩
    · obtain ⟨ha, hb⟩ := OK.out.loud HE.out (.inr (.inr (.inr (.inl hq)))) HC.out
      have da : (cn != 0) = true := by simp [ha]
      have db : decide (ca5 ≤ (k : Int) + 1) = true := decide_eq_true hb
      have f7 : (e.k == 7) = false := by simp [hq]
      have f1 : (e.k == 1) = false := by simp [hq]
      have f2 : (e.k == 2) = false := by simp [hq]
      have f11 : (e.k == 11) = false := by simp [hq]
      have f6 : (e.k == 6) = true := by simp [hq]
      have f5 : (e.k == 5) = false := by simp [hq]
      have f12 : (e.k == 12) = false := by simp [hq]
      have f13 : (e.k == 13) = false := by simp [hq]
      have f9 : (e.k == 9) = false := by simp [hq]
      have f10 : (e.k == 10) = false := by simp [hq]
      have f8 : (e.k == 8) = false := by simp [hq]
      clear hq HC OK HE CK ha hb
      go_wp2_with fail
      refine (Gu.exits_any _).mono ?_
      rintro r w6 ⟨rfl, b6⟩
      have B6 := hide (btr B5.out b6)
      clear b6
      go_wp2_with fail
      go_ret
      exact ⟨rfl, B6.out⟩
    · obtain ⟨ha, hb⟩ := OK.out.loud HE.out (.inr (.inr (.inr (.inr (.inl hq))))) HC.out
      have da : (cn != 0) = true := by simp [ha]
      have db : decide (ca5 ≤ (k : Int) + 1) = true := decide_eq_true hb
      have f7 : (e.k == 7) = true := by simp [hq]
      have f1 : (e.k == 1) = false := by simp [hq]
      have f2 : (e.k == 2) = false := by simp [hq]
      have f11 : (e.k == 11) = false := by simp [hq]
      have f6 : (e.k == 6) = false := by simp [hq]
      have f5 : (e.k == 5) = false := by simp [hq]
      have f12 : (e.k == 12) = false := by simp [hq]
      have f13 : (e.k == 13) = false := by simp [hq]
      have f9 : (e.k == 9) = false := by simp [hq]
      have f10 : (e.k == 10) = false := by simp [hq]
      have f8 : (e.k == 8) = false := by simp [hq]
      clear hq HC OK HE CK ha hb
      go_wp2_with fail
      refine (Gu.exits_any _).mono ?_
      rintro r w6 ⟨rfl, b6⟩
      have B6 := hide (btr B5.out b6)
      clear b6
      go_wp2_with fail
      go_ret
      exact ⟨rfl, B6.out⟩
    · obtain ⟨rfl, rfl⟩ := HC.out.eq (OK.out.quiet HE.out (.inl hq))
      have f7 : (e.k == 7) = false := by simp [hq]
      have f1 : (e.k == 1) = false := by simp [hq]
      have f2 : (e.k == 2) = false := by simp [hq]
      have f11 : (e.k == 11) = false := by simp [hq]
      have f6 : (e.k == 6) = false := by simp [hq]
      have f5 : (e.k == 5) = false := by simp [hq]
      have f12 : (e.k == 12) = false := by simp [hq]
      have f13 : (e.k == 13) = false := by simp [hq]
      have f9 : (e.k == 9) = false := by simp [hq]
      have f10 : (e.k == 10) = false := by simp [hq]
      have f8 : (e.k == 8) = true := by simp [hq]
      clear hq HC OK HE CK
      go_wp2_with fail
      refine (Gu.exits_any _).mono ?_
      rintro r w6 ⟨rfl, b6⟩
      have B6 := hide (btr B5.out b6)
      clear b6
      go_wp2_with fail
      go_ret
      exact ⟨rfl, B6.out⟩
    · obtain ⟨rfl, rfl⟩ := HC.out.eq (OK.out.quiet HE.out (.inr (.inl hq)))
      have f7 : (e.k == 7) = false := by simp [hq]
      have f1 : (e.k == 1) = false := by simp [hq]
      have f2 : (e.k == 2) = false := by simp [hq]
      have f11 : (e.k == 11) = false := by simp [hq]
      have f6 : (e.k == 6) = false := by simp [hq]
      have f5 : (e.k == 5) = false := by simp [hq]
      have f12 : (e.k == 12) = false := by simp [hq]
      have f13 : (e.k == 13) = false := by simp [hq]
      have f9 : (e.k == 9) = true := by simp [hq]
      have f10 : (e.k == 10) = false := by simp [hq]
      have f8 : (e.k == 8) = false := by simp [hq]
      clear hq HC OK HE CK
      go_wp2_with fail
      refine (Gu.exits_any _).mono ?_
      rintro r w6 ⟨rfl, b6⟩
      have B6 := hide (btr B5.out b6)
      clear b6
      go_wp2_with fail
      go_ret
      exact ⟨rfl, B6.out⟩
    · obtain ⟨rfl, rfl⟩ := HC.out.eq (OK.out.quiet HE.out (.inr (.inr (.inl hq))))
      have f7 : (e.k == 7) = false := by simp [hq]
      have f1 : (e.k == 1) = false := by simp [hq]
      have f2 : (e.k == 2) = false := by simp [hq]
      have f11 : (e.k == 11) = false := by simp [hq]
      have f6 : (e.k == 6) = false := by simp [hq]
      have f5 : (e.k == 5) = false := by simp [hq]
      have f12 : (e.k == 12) = false := by simp [hq]
      have f13 : (e.k == 13) = false := by simp [hq]
      have f9 : (e.k == 9) = false := by simp [hq]
      have f10 : (e.k == 10) = true := by simp [hq]
      have f8 : (e.k == 8) = false := by simp [hq]
      clear hq HC OK HE CK
      go_wp2_with fail
      refine (Gu.exits_any _).mono ?_
      rintro r w6 ⟨rfl, b6⟩
      have B6 := hide (btr B5.out b6)
      clear b6
      go_wp2_with fail
      go_ret
      exact ⟨rfl, B6.out⟩
    · obtain ⟨ha, hb⟩ := OK.out.loud HE.out (.inr (.inr (.inr (.inr (.inr (.inl hq)))))) HC.out
      have da : (cn != 0) = true := by simp [ha]
      have db : decide (ca5 ≤ (k : Int) + 1) = true := decide_eq_true hb
      have f7 : (e.k == 7) = false := by simp [hq]
      have f1 : (e.k == 1) = false := by simp [hq]
      have f2 : (e.k == 2) = false := by simp [hq]
      have f11 : (e.k == 11) = true := by simp [hq]
      have f6 : (e.k == 6) = false := by simp [hq]
      have f5 : (e.k == 5) = false := by simp [hq]
      have f12 : (e.k == 12) = false := by simp [hq]
      have f13 : (e.k == 13) = false := by simp [hq]
      have f9 : (e.k == 9) = false := by simp [hq]
      have f10 : (e.k == 10) = false := by simp [hq]
      have f8 : (e.k == 8) = false := by simp [hq]
      clear hq HC OK HE CK ha hb
      go_wp2_with fail
      refine (Gu.exits_any _).mono ?_
      rintro r w6 ⟨rfl, b6⟩
      have B6 := hide (btr B5.out b6)
      clear b6
      go_wp2_with fail
      go_ret
      exact ⟨rfl, B6.out⟩
    · obtain ⟨ha, hb⟩ := OK.out.loud HE.out (.inr (.inr (.inr (.inr (.inr (.inr (hq))))))) HC.out
      have da : (cn != 0) = true := by simp [ha]
      have db : decide (ca5 ≤ (k : Int) + 1) = true := decide_eq_true hb
      have f7 : (e.k == 7) = false := by simp [hq]
      have f1 : (e.k == 1) = false := by simp [hq]
      have f2 : (e.k == 2) = false := by simp [hq]
      have f11 : (e.k == 11) = false := by simp [hq]
      have f6 : (e.k == 6) = false := by simp [hq]
      have f5 : (e.k == 5) = false := by simp [hq]
      have f12 : (e.k == 12) = true := by simp [hq]
      have f13 : (e.k == 13) = false := by simp [hq]
      have f9 : (e.k == 9) = false := by simp [hq]
      have f10 : (e.k == 10) = false := by simp [hq]
      have f8 : (e.k == 8) = false := by simp [hq]
      clear hq HC OK HE CK ha hb
      go_wp2_with fail
      refine (Gu.exits_any _).mono ?_
      rintro r w6 ⟨rfl, b6⟩
      have B6 := hide (btr B5.out b6)
      clear b6
      go_wp2_with fail
      go_ret
      exact ⟨rfl, B6.out⟩
    · obtain ⟨rfl, rfl⟩ := HC.out.eq (OK.out.quiet HE.out (.inr (.inr (.inr (hq)))))
      have f7 : (e.k == 7) = false := by simp [hq]
      have f1 : (e.k == 1) = false := by simp [hq]
      have f2 : (e.k == 2) = false := by simp [hq]
      have f11 : (e.k == 11) = false := by simp [hq]
      have f6 : (e.k == 6) = false := by simp [hq]
      have f5 : (e.k == 5) = false := by simp [hq]
      have f12 : (e.k == 12) = false := by simp [hq]
      have f13 : (e.k == 13) = true := by simp [hq]
      have f9 : (e.k == 9) = false := by simp [hq]
      have f10 : (e.k == 10) = false := by simp [hq]
      have f8 : (e.k == 8) = false := by simp [hq]
      clear hq HC OK HE CK
      go_wp2_with fail
      refine (Gu.exits_any _).mono ?_
      rintro r w6 ⟨rfl, b6⟩
      have B6 := hide (btr B5.out b6)
      clear b6
      go_wp2_with fail
      go_ret
      exact ⟨rfl, B6.out⟩

/-! ### the row -/
set_option maxRecDepth 100000 in
theorem lifted (os : Os) (started : os.Started) (H : Type) (enc : TypeId × Value → H) :
    ReturnsInHanded {} Tryz.checked os 5 .any (Rows.gaugeSpoilsSpec.pre6 enc Tryz.prog Tryz.f5 Rows.gaugeSpoilsRow.domain false) (Rows.gaugeSpoilsSpec.post enc Tryz.prog Tryz.f5 false true false false) := by
  refine returnsInHanded_of_change_sized (C := Tryz.checked) own started (by kernel_rfl) Tryz.func5
    (ChangeSpec.witness6 (enc := enc) (C := Tryz.checked) false ⟨#[], #[.agg #[.int .i64 0, .int .i64 0, .slice none 0 0, .slice none 0 0, .slice none 0 0], .int .i64 0], []⟩ 8 (by kernel_rfl) (by kernel_rfl) (by kernel_rfl) (by kernel_rfl)) ?_
  intro W base args ds gs before hval0 hW hcnd hsz0 _
  have hval : ∀ (j : Nat) t v, Tryz.f5.params[j]? = some t → args[j]? = some v → Value.okWide Tryz.prog W .any base t v := hval0
  have hW' := hW
  obtain ⟨p, q, hA0, hV, rfl, hfz, hnd⟩ := hW
  have hA : DataW.TrodAll enc Tryz.prog W 0 (fun _ => true) true Tryz.f5.params.toList args.toList ds p := hA0
  rw [Tryz.params5] at hA hval
  have hsz : (DataW.weightsEach Tryz.prog (Tryz.f5.params.toList ++ Rows.gaugeSpoilsSpec.plain.varTypes Tryz.prog) (ds ++ gs)).all (· ≤ reachBytes) = true := hsz0
  clear hsz0
  rw [Tryz.params5] at hsz
  obtain ⟨v0, vs0, d0, ds0, p0, q0, hargs, rfl, rfl, h0, r0⟩ := trodAll_cons hA
  obtain ⟨v1, vs1, d1, ds1, p1, q1, rfl, rfl, rfl, h1, r1⟩ := trodAll_cons r0
  obtain ⟨rfl, rfl, rfl⟩ := trodAll_nil r1
  obtain rfl : args = #[v0, v1] := by cases args; simp_all
  obtain ⟨rfl, rfl⟩ := trodVars_none hV
  have k0 := h0
  have lt0 : ∀ x ∈ p0, x.block < W.heap.size := by obtain ⟨m, hm⟩ := k0; exact DataW.trod_lt m _ _ _ hm
  have z0 : Sh.WL 25 d0 := fun m hm => by
    have := List.all_eq_true.1 hsz _ (DataW.weights_mem_each (j := 0) (t := 25) (d := d0) rfl rfl m hm)
    simpa using this
  obtain ⟨T0, M0, ps0, pl0, dr0, pa0, la0, da0, pc0, lc0, dc0, rfl, S0, H0⟩ := h0.elim fun _ hf => Sh.script_open hf z0
  obtain ⟨a1, rfl, rfl, rfl, w1⟩ := open_int Tryz.underlying3 (hval 1 3 v1 rfl rfl) h1
  clear hA0 hval0
  refine (core (w := W) T0 M0 ps0 pl0 dr0 pa0 la0 da0 pc0 lc0 dc0 S0 H0 a1).mono fun e W' ⟨he, bel⟩ => ?_
  subst he
  exact ⟨_, rfl, _, _, _, [], _, [], hW', trodAll_mk1 (shut_bool Tryz.underlying4 _), (trodAll_cons_mk (Below.trod laidOut (by kernel_rfl) (of_decide_eq_true (by kernel_rfl)) k0 bel lt0) (trodAll_cons_mk (shut_int Tryz.underlying3 w1) trodAll_mk0)), rfl, bel.frame _, fun h => by cases h⟩

theorem over : Rows.gaugeSpoilsRow.holds Tryz.pinned (OpenSpec.ofChange Rows.gaugeSpoilsSpec) :=
  OpenClaim.holds_of_wide 5 Tryz.f5 rfl rfl rfl rfl rfl rfl rfl ⟨rfl, rfl, rfl, rfl, rfl⟩ rfl rfl rfl rfl rfl (by kernel_rfl) Tryz.func5 (by kernel_rfl)
    (of_decide_eq_true (by kernel_rfl)) (by unfold Func.isWrapper; first | (rw [if_pos (by decide +kernel)]; kernel_rfl) | (rw [if_neg (by decide +kernel)]; exact ⟨rfl, rfl⟩))
    (fun os started H enc _ => lifted os started H enc)

/-- the statement -/
theorem proved : Rows.GaugeSpoilsSaid := over
#print axioms proved
end Go.Proofs.YtkkgbeaaekmhfaaGreat.gaugeSpoils
