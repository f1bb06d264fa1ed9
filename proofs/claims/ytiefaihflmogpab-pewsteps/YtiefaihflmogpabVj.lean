/- The reference's pew, over this seat's program: Take. -/
import Derived.Test.YtiefaihflmogpabVi
namespace Go.Proofs.Ytiefaihflmogpab
open Go.ChangeShapes Go.WideShapes Go.ChangeAt Go.RowKit
namespace Pe
open Ba
theorem RP.kbz {w w' : World} {G z : Nat} {l : List Wt} {c : Array Value} {fr : Nat × Nat} (h : RP w G l) (k : KB z w w') (hz : w.heap[z]? = some (.cells c 37 fr)) (hr : ∀ g cap, (∃ v, w.heap[G]? = some (.cells #[v] 29 (0, 0)) ∧ v = .slice (some ⟨g, 0, none⟩) l.length cap) → g ≠ z) : RP w' G l := by
  obtain ⟨v, h1, h2, h3⟩ := h
  have hGz : G ≠ z := by
    intro e
    rw [e, hz] at h1
    cases h1
  refine ⟨v, k.heap h1 hGz, ⟨h2.1, ?_⟩, h3⟩
  rcases h2.2 with q | ⟨g, cap, cur, q1, q2, q3, q4⟩
  · exact .inl q
  · exact .inr ⟨g, cap, cur, q1, q2, k.heap q3 (hr g cap ⟨v, h1, q1⟩), q4⟩
set_option maxRecDepth 100000 in
set_option maxHeartbeats 1600000 in
theorem rtake_none (G : Nat) (w : World) (h : RP w G []) :
    Calls Try.prog 14 #[.pointer (some ⟨G, 0, none⟩)] w fun r w' => r = .returned (.tuple #[wv ⟨0, 0, 0⟩, .bool false]) ∧ Below w.heap.size w w' := by
  have H := hide h
  clear h
  go_enter Try.func14, Try.ntmps14
  go_wp2_with fail
  refine (rfirst_any G [] _ (H.out.below (below_alloc _ _))).mono ?_
  rw [show fw [] = ⟨0, 0, 0⟩ from rfl, show fo [] = false from rfl]
  unfold wv
  rintro r w1 ⟨rfl, b1⟩
  have Z1 := hide (heap_below (heap_new w (.cells #[.int .i64 0, .int .i64 0, .int .i64 0] 37)) b1)
  have B1 := hide (btr (below_alloc w (.cells #[.int .i64 0, .int .i64 0, .int .i64 0] 37)) b1)
  have q0 := cell_of Z1.out 0
  have q1 := cell_of Z1.out 1
  have q2 := cell_of Z1.out 2
  have f0 := frozen_of Z1.out 0
  have f1 := frozen_of Z1.out 1
  have f2 := frozen_of Z1.out 2
  have hlt := heap_lt Z1.out
  simp at q0 q1 q2
  clear b1
  go_wp2_with fail
  exact bodyPost_ret (results_row2 Try.results14 _ _ _ _ _ rfl rfl (loadVar_rw (heap_below (three_set Z1.out _ _ _) (below_alloc _ _)) rfl)) rfl ⟨rfl, btr (((B1.out.setCell (Nat.le_refl _) _).setCell (Nat.le_refl _) _).setCell (Nat.le_refl _) _) (below_alloc _ _)⟩
set_option maxRecDepth 100000 in
set_option maxHeartbeats 1600000 in
theorem rtake_some (G : Nat) (x : Wt) (l : List Wt) (w : World) (h : RP w G (x :: l)) :
    Calls Try.prog 14 #[.pointer (some ⟨G, 0, none⟩)] w fun r w' => r = .returned (.tuple #[wv x, .bool true]) ∧ RP w' G l ∧ FT G 37 w w' := by
  have H := hide h
  have hle := h.le
  rw [List.length_cons] at hle
  have hlt := h.lt
  clear h
  cases hi : Try.prog.info? 37 with
  | none => have := info_rw; rw [hi] at this; cases this
  | some i0 =>
  have hx2 := info_rw
  rw [hi] at hx2
  simp at hx2
  have INF := hide (And.intro hi hx2)
  clear hx2 hi
  go_enter Try.func14, Try.ntmps14
  go_wp2_with fail
  refine (rfirst_any G (x :: l) _ (H.out.below (below_alloc _ _))).mono ?_
  rw [show fw (x :: l) = x from rfl, show fo (x :: l) = true from rfl]
  unfold wv
  rintro r w1 ⟨rfl, b1⟩
  have Z1 := hide (heap_below (heap_new w (.cells #[.int .i64 0, .int .i64 0, .int .i64 0] 37)) b1)
  have B1 := hide (btr (below_alloc w (.cells #[.int .i64 0, .int .i64 0, .int .i64 0] 37)) b1)
  clear b1
  have RP1 := H.out.below B1.out
  obtain ⟨oa, c, h1, hA, hc⟩ := RP1.at
  obtain ⟨b, off, rfl, a0, a1, a2⟩ := hA 0 x rfl
  rw [List.length_cons] at h1 hc
  have BX := hide (below_alloc w1 (.cells #[.int .i64 x.g, .int .i64 x.c, .int .i64 x.v] 37))
  have QX := hide (heap_new w1 (.cells #[.int .i64 x.g, .int .i64 x.c, .int .i64 x.v] 37))
  have HG1 := hide h1
  have HA1 := hide hA
  have hG1 := heap_lt h1
  have yg : w1.cell? ⟨G, 0, none⟩ = some (.slice (some ⟨b, off, none⟩) (l.length + 1) c) := cell_of h1 0
  clear h1 hA RP1 a0 a1 a2
  have hsrc : ∀ off' : Nat, (0 < l.length → off' = off + 3) → ∃ ob d W, (Builtin.append_ #[27, 27] 27 #[.slice none 0 0, .slice (some ⟨b, off', none⟩) l.length (c - 1)]).run Try.prog (w1.alloc (.cells #[.int .i64 x.g, .int .i64 x.c, .int .i64 x.v] 37)) = .ok (.slice ob l.length d) W ∧ W.ownsRow (w1.heap.size + 1) 37 3 (.slice ob l.length d) l.length (wc l) ∧ Below (w1.heap.size + 1) (w1.alloc (.cells #[.int .i64 x.g, .int .i64 x.c, .int .i64 x.v] 37)) W := by
    intro off' ho
    have hsz : (w1.alloc (.cells #[.int .i64 x.g, .int .i64 x.c, .int .i64 x.v] 37)).heap.size = w1.heap.size + 1 := World.size_alloc _ _
    obtain ⟨v', W, hr, h2, h5, _⟩ := run_append_own (P := Try.prog) (w1.alloc (.cells #[.int .i64 x.g, .int .i64 x.c, .int .i64 x.v] 37)) (w1.heap.size + 1) 27 27 37 i0 (wv ⟨0, 0, 0⟩) 3 24 Try.underlying27 INF.out.1 INF.out.2.1 INF.out.2.2.1 INF.out.2.2.2 rfl (by decide) (.slice none 0 0) 0 [] (World.ownsRow_nil _ _ _ _) ⟨b, off', none⟩ l.length (c - 1) (wc l) (wc_len l) (by
      intro j u hj
      have hjl : j < l.length * 3 := by
        have := (List.getElem?_eq_some_iff.1 hj).1
        rw [wc_len] at this
        exact this
      obtain rfl := ho (by omega)
      have hq : j / 3 < l.length := by omega
      obtain ⟨y, hy⟩ : ∃ y, l[j / 3]? = some y := ⟨_, List.getElem?_eq_getElem hq⟩
      obtain ⟨b', o', e, g0, g1, g2⟩ := (HA1.out.below BX.out) (j / 3 + 1) y (by simpa using hy)
      simp at e
      obtain ⟨rfl, rfl⟩ := e
      obtain ⟨k0, k1, k2⟩ := wc_at l (j / 3) y hy
      rw [Addr.add_lit]
      have hm : j % 3 = 0 ∨ j % 3 = 1 ∨ j % 3 = 2 := by omega
      rcases hm with hm | hm | hm
      · rw [show off + 3 + j = off + (j / 3 + 1) * 3 by omega, g0]
        rw [show j / 3 * 3 = j by omega, hj] at k0
        exact k0.symm
      · rw [show off + 3 + j = off + (j / 3 + 1) * 3 + 1 by omega, g1]
        rw [show j / 3 * 3 + 1 = j by omega, hj] at k1
        exact k1.symm
      · rw [show off + 3 + j = off + (j / 3 + 1) * 3 + 2 by omega, g2]
        rw [show j / 3 * 3 + 2 = j by omega, hj] at k2
        exact k2.symm) (wc_one l) (by unfold maxLen; omega) (by omega) (by rw [hsz]; exact Nat.le_refl _)
    rw [Nat.zero_add, List.nil_append] at h2
    obtain ⟨ob, d, rfl, _, _⟩ := owns_wat h2
    refine ⟨ob, d, W, hr, h2, ?_⟩
    have := (Below.refl (w1.heap.size + 1) (w1.alloc (.cells #[.int .i64 x.g, .int .i64 x.c, .int .i64 x.v] 37))).grown h5 (by rw [hsz]; exact Nat.le_refl _) (fun x hx => by cases hx)
    exact this
  have hws : w.heap.size < w1.heap.size := heap_lt Z1.out
  have fin : ∀ (W : World) (v : Value) (u0 u1 u2 : Value), W.ownsRow (w1.heap.size + 1) 37 3 v l.length (wc l) → Below (w1.heap.size + 1) (w1.alloc (.cells #[.int .i64 x.g, .int .i64 x.c, .int .i64 x.v] 37)) W → RP ((((W.setCell ⟨G, 0, none⟩ v).setCell ⟨w.heap.size, 0, none⟩ u0).setCell ⟨w.heap.size, 1, none⟩ u1).setCell ⟨w.heap.size, 2, none⟩ u2) G l ∧ FT G 37 w ((((W.setCell ⟨G, 0, none⟩ v).setCell ⟨w.heap.size, 0, none⟩ u0).setCell ⟨w.heap.size, 1, none⟩ u1).setCell ⟨w.heap.size, 2, none⟩ u2) ∧ (W.setCell ⟨G, 0, none⟩ v).heap[w.heap.size]? = some (.cells #[.int .i64 0, .int .i64 0, .int .i64 0] 37 (0, 0)) := by
    intro W v u0 u1 u2 ho hb
    have hGW : W.heap[G]? = some (.cells #[.slice (some ⟨b, off, none⟩) (l.length + 1) c] 29 (0, 0)) := (hb.block G (by omega)).trans (heap_below HG1.out BX.out)
    have hZW : W.heap[w.heap.size]? = _ := (hb.block w.heap.size (by omega)).trans (heap_below Z1.out BX.out)
    have hzG : (W.setCell ⟨G, 0, none⟩ v).heap[w.heap.size]? = _ := (Below.heap_setCell _ _ _ _ (by show w.heap.size ≠ G; omega)).trans hZW
    have ho' : W.ownsRow (G + 1) 37 3 v l.length (wc l) := by
      refine ⟨ho.1, ?_⟩
      rcases ho.2 with q | ⟨g, cap, cur, q1, q2, q3, q4⟩
      · exact .inl q
      · exact .inr ⟨g, cap, cur, q1, by omega, q3, q4⟩
    have r1 := RP.put hGW ho' (by omega)
    have bw : Below w.heap.size w W := ((btr B1.out BX.out).mono (Nat.le_refl _)).trans (hb.mono (by omega))
    refine ⟨?_, ((((FT.of (P := G) (e := 37) bw (by omega)).setP 0 v).setNew (Nat.le_refl _) (by omega) 0 u0).setNew (Nat.le_refl _) (by omega) 1 u1).setNew (Nat.le_refl _) (by omega) 2 u2, hzG⟩
    refine r1.kbz ((((KB.refl w.heap.size _).setCell 0 u0).setCell 1 u1).setCell 2 u2) hzG ?_
    rintro g cap ⟨v2, hv2, rfl⟩
    have e2 := (Ba.heap_setCell_same (i := 0) hGW v).symm.trans hv2
    simp at e2
    subst e2
    have := (ho.lt g rfl).1
    omega
  have FIN := hide fin
  clear fin
  have hGz : G ≠ w.heap.size := by omega
  by_cases hc1 : c = 1
  · obtain rfl := hc1
    obtain rfl : l = [] := List.eq_nil_of_length_eq_zero (by omega)
    obtain ⟨ob, d, W, hr, ho, hb⟩ := hsrc off (fun h => by simp at h)
    have HR : Hid ((Builtin.append_ #[27, 27] 27 #[.slice none 0 0, .slice (some ⟨b, off, none⟩) 0 0]).run Try.prog (w1.alloc (.cells #[.int .i64 x.g, .int .i64 x.c, .int .i64 x.v] 37)) = .ok (.slice ob 0 d) W) := hr
    have HO := hide ho
    have HB := hide hb
    have GW := hide ((hb.block G (by omega)).trans (heap_below HG1.out BX.out))
    have XW := hide ((hb.block w1.heap.size (by omega)).trans QX.out)
    have ZW := hide ((hb.block w.heap.size (by omega)).trans (heap_below Z1.out BX.out))
    have g0 := cell_of GW.out 0
    have gf := frozen_of GW.out 0
    have x0 := cell_of XW.out 0
    have x1 := cell_of XW.out 1
    have x2 := cell_of XW.out 2
    have z0 := cell_of ZW.out 0
    have z1 := cell_of ZW.out 1
    have z2 := cell_of ZW.out 2
    have zf0 := frozen_of ZW.out 0
    have zf1 := frozen_of ZW.out 1
    have zf2 := frozen_of ZW.out 2
    simp at g0 x0 x1 x2 z0 z1 z2
    clear ho hb hr hsrc
    go_wp2_with (at_builtin; refine Lib.wpList_append_run _ rfl _ _ 27 27 rfl _ _ rfl rfl _ _ HR.out ?_)
    obtain ⟨r1, r2, r3⟩ := FIN.out W _ (.int .i64 x.g) (.int .i64 x.c) (.int .i64 x.v) HO.out HB.out
    exact bodyPost_ret (results_row2 Try.results14 _ _ _ _ _ rfl rfl (loadVar_rw (three_set r3 _ _ _) rfl)) rfl ⟨rfl, r1, r2⟩
  · obtain ⟨ob, d, W, hr, ho, hb⟩ := hsrc (off + 3) (fun _ => rfl)
    have HR := hide hr
    have HO := hide ho
    have HB := hide hb
    have GW := hide ((hb.block G (by omega)).trans (heap_below HG1.out BX.out))
    have XW := hide ((hb.block w1.heap.size (by omega)).trans QX.out)
    have ZW := hide ((hb.block w.heap.size (by omega)).trans (heap_below Z1.out BX.out))
    have g0 := cell_of GW.out 0
    have gf := frozen_of GW.out 0
    have x0 := cell_of XW.out 0
    have x1 := cell_of XW.out 1
    have x2 := cell_of XW.out 2
    have z0 := cell_of ZW.out 0
    have z1 := cell_of ZW.out 1
    have z2 := cell_of ZW.out 2
    have zf0 := frozen_of ZW.out 0
    have zf1 := frozen_of ZW.out 1
    have zf2 := frozen_of ZW.out 2
    simp at g0 x0 x1 x2 z0 z1 z2
    clear ho hb hr hsrc
    go_wp2_with (at_builtin; refine Lib.wpList_append_run _ rfl _ _ 27 27 rfl _ _ rfl rfl _ _ HR.out ?_)
    obtain ⟨r1, r2, r3⟩ := FIN.out W _ (.int .i64 x.g) (.int .i64 x.c) (.int .i64 x.v) HO.out HB.out
    exact bodyPost_ret (results_row2 Try.results14 _ _ _ _ _ rfl rfl (loadVar_rw (three_set r3 _ _ _) rfl)) rfl ⟨rfl, r1, r2⟩
theorem rtake_any (G : Nat) (l : List Wt) (w : World) (h : RP w G l) :
    Calls Try.prog 14 #[.pointer (some ⟨G, 0, none⟩)] w fun r w' => r = .returned (.tuple #[wv (fw l), .bool (fo l)]) ∧ RP w' G l.tail ∧ FT G 37 w w' := by
  cases l with
  | nil =>
    refine (rtake_none G w h).mono ?_
    rintro r w1 ⟨rfl, b1⟩
    exact ⟨rfl, h.below b1, FT.of b1 (Nat.le_of_lt h.lt)⟩
  | cons x l => exact rtake_some G x l w h
theorem take_any (P : Nat) (l : List Wt) (w : World) (h : Pw w P l) :
    Calls Try.prog 13 #[.pointer (some ⟨P, 0, none⟩)] w fun r w' => r = .returned (.tuple #[wv (fw l), .bool (fo l)]) ∧ Pw w' P l.tail ∧ FT P 58 w w' := by
  cases l with
  | nil =>
    refine (take_none P w h).mono ?_
    rintro r w1 ⟨rfl, b1⟩
    exact ⟨rfl, h.below b1, FT.of b1 (Nat.le_of_lt h.lt)⟩
  | cons x l => exact take_some P x l w h
end Pe
end Go.Proofs.Ytiefaihflmogpab
