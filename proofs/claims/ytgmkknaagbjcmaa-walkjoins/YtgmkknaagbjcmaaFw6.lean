/- Layer 27's reference, over this seat's program: Path. -/
import Derived.Test.YtgmkknaagbjcmaaFw5
namespace Go.Proofs.Ytgmkknaagbjcmaa
open Go.ChangeShapes Go.WideShapes Go.ChangeAt Go.RowKit
namespace Fw
open Ba Fl

/-- places in a row -/
def pv (n : Nat) (f : Nat → Int × Int) : List Value := (List.range n).flatMap fun i => [.int .i64 (f i).1, .int .i64 (f i).2]
theorem pv_succ (n : Nat) (f : Nat → Int × Int) : pv (n + 1) f = pv n f ++ [.int .i64 (f n).1, .int .i64 (f n).2] := by simp [pv, List.range_succ]
theorem pv_len (f : Nat → Int × Int) : ∀ n, (pv n f).length = n * 2
  | 0 => rfl
  | n + 1 => by rw [pv_succ, List.length_append, pv_len f n]; simp; omega
theorem pv_at (f : Nat → Int × Int) (i : Nat) : ∀ n, i < n → (pv n f)[i * 2]? = some (.int .i64 (f i).1) ∧ (pv n f)[i * 2 + 1]? = some (.int .i64 (f i).2)
  | 0, h => absurd h (Nat.not_lt_zero _)
  | n + 1, h => by
    rw [pv_succ]
    by_cases hi : i < n
    · rw [List.getElem?_append_left (by rw [pv_len]; omega), List.getElem?_append_left (by rw [pv_len]; omega)]
      exact pv_at f i n hi
    · obtain rfl : i = n := by omega
      rw [List.getElem?_append_right (by rw [pv_len]; omega), List.getElem?_append_right (by rw [pv_len]; omega), pv_len, Nat.sub_self, Nat.add_sub_cancel_left]
      exact ⟨rfl, rfl⟩
/-- places in memory -/
def QAt (w : World) (oa : Option Addr) (n : Nat) (f : Nat → Int × Int) : Prop := ∀ i, i < n → ∃ b off, oa = some ⟨b, off, none⟩ ∧ w.cell? ⟨b, off + i * 2, none⟩ = some (.int .i64 (f i).1) ∧ w.cell? ⟨b, off + i * 2 + 1, none⟩ = some (.int .i64 (f i).2)
theorem QAt.below {w w' : World} {oa : Option Addr} {n : Nat} {f : Nat → Int × Int} (h : QAt w oa n f) (hb : Below w.heap.size w w') : QAt w' oa n f := by
  intro i hi
  obtain ⟨b, off, e, h1, h2⟩ := h i hi
  exact ⟨b, off, e, (hb.cell (World.block_lt_of_cell? w _ h1)).trans h1, (hb.cell (World.block_lt_of_cell? w _ h2)).trans h2⟩
theorem own_q {w : World} {base : Nat} {v : Value} {n : Nat} {f : Nat → Int × Int} (h : w.ownsRow base 33 2 v n (pv n f)) : ∃ oa c, v = .slice oa n c ∧ n ≤ c ∧ QAt w oa n f := by
  rcases h.2 with ⟨rfl, rfl⟩ | ⟨g, cap, cur, rfl, -, hg, h1, -, -, h3⟩
  · exact ⟨none, 0, rfl, Nat.le_refl _, fun i h => absurd h (Nat.not_lt_zero _)⟩
  · refine ⟨_, _, rfl, h1, fun i hi => ⟨g, 0, rfl, ?_, ?_⟩⟩
    · rw [Nat.zero_add, cell_of hg]
      have e1 := (pv_at f i n hi).1
      rw [← h3, List.getElem?_take, if_pos (by omega)] at e1
      simpa using e1
    · rw [Nat.zero_add, cell_of hg]
      have e1 := (pv_at f i n hi).2
      rw [← h3, List.getElem?_take, if_pos (by omega)] at e1
      simpa using e1
theorem info_plc : (Try.prog.info? 33).map (fun i => (i.zero, i.size, i.bytes)) = some (some (.agg #[.int .i64 0, .int .i64 0]), 2, 16) := by kernel_rfl
theorem size_wlk : (Try.prog.info? 35).map (·.size) = some 3 := by kernel_rfl
theorem loadVar_wlk {w : World} {b : Nat} {c : Array Value} {t : TypeId} (h : w.heap[b]? = some (.cells c t (0, 0))) (hc : c.size = 3) : (loadVar 35 ⟨b, 0, none⟩).run Try.prog w = .ok (.agg c) w :=
  run_loadVar_row w b t _ _ _ _ h Try.underlying35 rfl (by rw [size_wlk, hc])
/-- the reference's path under way -/
structure RP (w : World) (N k : Nat) (v : Value) (d1 d2 x y : Int) (f : Nat → Int × Int) : Prop where
  hr : w.heap[N]? = some (.cells #[.slice none 0 0, .int .i64 0, .int .i64 0] 35 (0, 0))
  hw : w.heap[N + 1 + 1]? = some (.cells #[v, .int .i64 d1, .int .i64 d2] 35 (0, 0))
  ha : w.heap[N + 1 + 1 + 1]? = some (.cells #[.int .i64 x, .int .i64 y] 33 (0, 0))
  ow : w.ownsRow N 33 2 v k (pv k f)
  nb : v.ownBlock ≠ some (N + 1 + 1 + 1)
section
variable {w w' : World} {N k : Nat} {v : Value} {d1 d2 x y : Int} {f : Nat → Int × Int}
theorem RP.below (h : RP w N k v d1 d2 x y f) (b : Below w.heap.size w w') : RP w' N k v d1 d2 x y f := ⟨heap_below h.hr b, heap_below h.hw b, heap_below h.ha b, own_below h.ow b, h.nb⟩
theorem own_w {P : Nat} {c : Array Value} (h : w.ownsRow N 33 2 v k (pv k f)) (p : w.heap[P]? = some (.cells c 35 (0, 0))) : v.ownBlock ≠ some P := by
  rcases h.2 with ⟨rfl, -⟩ | ⟨g, cap, cur, rfl, -, q3, -⟩
  · intro e; cases e
  · intro e; cases e; rw [q3] at p; cases p
theorem RP.setD (h : RP w N k v d1 d2 x y f) (a b : Int) : RP ((w.setCell ⟨N + 1 + 1, 1, none⟩ (.int .i64 a)).setCell ⟨N + 1 + 1, 2, none⟩ (.int .i64 b)) N k v a b x y f := by
  have K := ((KB.refl (N + 1 + 1) w).setCell 1 (.int .i64 a)).setCell 2 (.int .i64 b)
  exact ⟨K.heap h.hr (by omega), Ba.heap_setCell_same (Ba.heap_setCell_same h.hw _) _, K.heap h.ha (by omega), own_kb h.ow K (own_w h.ow h.hw), h.nb⟩
theorem RP.setA (h : RP w N k v d1 d2 x y f) (a b : Int) : RP ((w.setCell ⟨N + 1 + 1 + 1, 0, none⟩ (.int .i64 a)).setCell ⟨N + 1 + 1 + 1, 1, none⟩ (.int .i64 b)) N k v d1 d2 a b f := by
  have K := ((KB.refl (N + 1 + 1 + 1) w).setCell 0 (.int .i64 a)).setCell 1 (.int .i64 b)
  exact ⟨K.heap h.hr (by omega), K.heap h.hw (by omega), Ba.heap_setCell_same (Ba.heap_setCell_same h.ha _) _, own_kb h.ow K h.nb, h.nb⟩
theorem RP.app (h : RP w N k v d1 d2 x y f) (hg : w.grownBy w' v.ownBlock) {v' : Value} (ho : w'.ownsRow N 33 2 v' (k + 1) (pv (k + 1) f)) (hat : v'.ownBlock = v.ownBlock ∨ v'.ownBlock = some w.heap.size) : RP (w'.setCell ⟨N + 1 + 1, 0, none⟩ v') N (k + 1) v' d1 d2 x y f := by
  have g1 : ∀ {b : Nat} {o : Obj}, w.heap[b]? = some o → v.ownBlock ≠ some b → w'.heap[b]? = some o := fun hb hn => (hg.block _ (heap_lt hb) (fun e => hn e.symm)).trans hb
  have a1 := g1 h.hr (own_w h.ow h.hr)
  have a2 := g1 h.hw (own_w h.ow h.hw)
  have a3 := g1 h.ha h.nb
  have K := (KB.refl (N + 1 + 1) w').setCell 0 v'
  refine ⟨K.heap a1 (by omega), Ba.heap_setCell_same a2 _, K.heap a3 (by omega), own_kb ho K (own_w ho a2), ?_⟩
  rcases hat with q | q
  · rw [q]; exact h.nb
  · rw [q]; intro e; injection e with e; have := heap_lt h.ha; omega
theorem q_kb {oa : Option Addr} {n m c P : Nat} (h : QAt w oa n f) (K : KB P w w') (hn : (Value.slice oa m c).ownBlock ≠ some P) : QAt w' oa n f := by
  intro i hi
  obtain ⟨b, off, rfl, h1, h2⟩ := h i hi
  have hb : b ≠ P := fun e => hn (by rw [← e]; rfl)
  exact ⟨b, off, rfl, K.cell h1 hb, K.cell h2 hb⟩
end
/-- the reference's path hands back -/
def RpR (w : World) (l : List Ev) (r : Ending) (w' : World) : Prop := ∃ oa c, r = .returned (.agg #[.slice oa (l.length + 1) c, .int .i64 (dx (stI l).2.2), .int .i64 (dy (stI l).2.2)]) ∧ QAt w' oa (l.length + 1) (pl l) ∧ Below w.heap.size w w'
theorem two_src (w : World) (a b : Value) (t : TypeId) : ∀ j u, [a, b][j]? = some u → (w.alloc (.cells #[a, b] t)).cell? ((⟨w.heap.size, 0, none⟩ : Addr).add j) = some u := by
  intro j u h
  rw [Addr.add_lit, Nat.zero_add, cell_of (heap_new _ _)]
  match j, h with
  | 0, h => exact h
  | 1, h => exact h
  | j + 2, h => simp at h
set_option maxRecDepth 100000 in
set_option maxHeartbeats 3200000 in
theorem rpath_any (oa : Option Addr) (l : List Ev) (c : Nat) (w : World) (hA : EsAt w oa l) (hl : l.length ≤ 2000) :
    Calls Try.prog 11 #[.slice oa l.length c] w fun r w' => RpR w l r w' := by
  have HA := hide hA
  clear hA
  obtain ⟨i0, hi, hz0, hz1, hz2⟩ := info_parts info_plc
  have INF := hide (And.intro hi (And.intro hz0 (And.intro hz1 hz2)))
  clear hi hz0 hz1 hz2
  obtain ⟨N, hN⟩ : ∃ N, l.length = N := ⟨_, rfl⟩
  have HN := hide hN
  have PR : Hid (∀ r w', RpR w l r w' ↔ ∃ oa c, r = .returned (.agg #[.slice oa (N + 1) c, .int .i64 (dx (stI l).2.2), .int .i64 (dy (stI l).2.2)]) ∧ QAt w' oa (N + 1) (pl l) ∧ Below w.heap.size w w') := fun r w' => by unfold RpR; rw [hN]
  have TK : Hid (l.take N = l) := by show l.take N = l; rw [← hN]; exact List.take_length
  rw [hN] at hl ⊢
  clear hN
  have START : Hid (RP ((((w.alloc (.cells #[.slice none 0 0, .int .i64 0, .int .i64 0] 35)).alloc (.cells #[.int .i64 0, .int .i64 0] 33)).alloc (.cells #[.slice (some ⟨w.heap.size + 1, 0, none⟩) 1 1, .int .i64 1, .int .i64 0] 35)).alloc (.cells #[.int .i64 0, .int .i64 0] 33)) w.heap.size 1 (.slice (some ⟨w.heap.size + 1, 0, none⟩) 1 1) 1 0 0 0 (pl l)) := by
    have h1 := heap_new w (.cells #[.slice none 0 0, .int .i64 0, .int .i64 0] 35)
    have h2 := heap_new (w.alloc (.cells #[.slice none 0 0, .int .i64 0, .int .i64 0] 35)) (.cells #[.int .i64 0, .int .i64 0] 33)
    have h3 := heap_new ((w.alloc (.cells #[.slice none 0 0, .int .i64 0, .int .i64 0] 35)).alloc (.cells #[.int .i64 0, .int .i64 0] 33)) (.cells #[.slice (some ⟨w.heap.size + 1, 0, none⟩) 1 1, .int .i64 1, .int .i64 0] 35)
    have h4 := heap_new (((w.alloc (.cells #[.slice none 0 0, .int .i64 0, .int .i64 0] 35)).alloc (.cells #[.int .i64 0, .int .i64 0] 33)).alloc (.cells #[.slice (some ⟨w.heap.size + 1, 0, none⟩) 1 1, .int .i64 1, .int .i64 0] 35)) (.cells #[.int .i64 0, .int .i64 0] 33)
    simp only [World.size_alloc] at h2 h3 h4
    refine ⟨heap_below h1 (btr (btr (below_alloc _ _) (below_alloc _ _)) (below_alloc _ _)), heap_below h3 (below_alloc _ _), h4, ⟨rfl, .inr ⟨_, 1, #[.int .i64 0, .int .i64 0], rfl, by omega, heap_below h2 (btr (below_alloc _ _) (below_alloc _ _)), Nat.le_refl _, by unfold maxLen; omega, rfl, rfl⟩⟩, ?_⟩
    intro e; injection e with e; simp at e
  have B0 := hide (btr (btr (btr (below_alloc w (.cells #[.slice none 0 0, .int .i64 0, .int .i64 0] 35)) (below_alloc _ (.cells #[.int .i64 0, .int .i64 0] 33))) (below_alloc _ (.cells #[.slice (some ⟨w.heap.size + 1, 0, none⟩) 1 1, .int .i64 1, .int .i64 0] 35))) (below_alloc _ (.cells #[.int .i64 0, .int .i64 0] 33)))
  go_enter Try.func11, Try.ntmps11
  go_wp2_with fail
  go_loopw [15] (fun i wr => ∃ (k : Nat) (v : Value), k ≤ N ∧ i = .int .i64 (k : Int) ∧ RP wr w.heap.size (k + 1) v (dx (stI (l.take k)).2.2) (dy (stI (l.take k)).2.2) (stI (l.take k)).1 (stI (l.take k)).2.1 (pl l) ∧ Below w.heap.size w wr) (fun i _ => N - (intOf i).toNat)
  case atStart => exact ⟨0, _, Nat.zero_le _, rfl, START.out, B0.out⟩
  case round =>
    obtain ⟨k, v, hk, rfl, rp, bl⟩ := hrel
    clear START B0
    obtain ⟨va, vc, rfl⟩ := own_sl rp.ow
    have BL := hide bl
    clear bl
    by_cases hlt : k < N
    · have hlt' : (k : Int) < (N : Int) := by omega
      obtain ⟨x, hx⟩ : ∃ x, l[k]? = some x := ⟨_, List.getElem?_eq_getElem (by rw [HN.out]; omega)⟩
      obtain ⟨b1, o1, rfl, -⟩ := HA.out k x hx
      obtain ⟨q0, q1, q2, q3, q4, q5, q6, q7⟩ := (HA.out.below BL.out).read hx
      have ST := hide (stI_take hx)
      have BD := st_bd l k (by rw [HN.out]; omega)
      have PL1 : Hid (pl l (k + 1) = (fx (stI (l.take k)).1 (stI (l.take k)).2.2 x, fy (stI (l.take k)).2.1 (stI (l.take k)).2.2 x)) := by
        show pl l (k + 1) = _
        unfold pl
        rw [ST.out]
      clear hx
      obtain ⟨X, hX⟩ : ∃ X, stI (l.take k) = X := ⟨_, rfl⟩
      rw [hX] at ST BD PL1 rp
      clear hX
      obtain ⟨X1, X2, X3⟩ := X
      simp only at ST BD PL1 rp
      have RP1 := hide (rp.below (below_alloc wr (.cells #[.int .i64 x.k, .int .i64 x.g, .int .i64 x.c, .int .i64 x.a, .int .i64 x.v, .int .i64 x.m, .bool x.s, .bool x.o] 54)))
      have BL1 := hide (btr BL.out (below_alloc wr (.cells #[.int .i64 x.k, .int .i64 x.g, .int .i64 x.c, .int .i64 x.a, .int .i64 x.v, .int .i64 x.m, .bool x.s, .bool x.o] 54)))
      have EV1 := hide (heap_new wr (.cells #[.int .i64 x.k, .int .i64 x.g, .int .i64 x.c, .int .i64 x.a, .int .i64 x.v, .int .i64 x.m, .bool x.s, .bool x.o] 54))
      have HSZ : w.heap.size + 1 + 1 + 1 < wr.heap.size := heap_lt rp.ha
      clear rp BL
      obtain ⟨E, hE⟩ : ∃ E, wr.heap.size = E := ⟨_, rfl⟩
      rw [hE] at EV1 HSZ
      -- two ways
      cases hs : skip x
      · have hs' : ¬ skip x = true := by rw [hs]; simp
        have FT : Hid (ft X3 x = (X3 + x.k % 4) % 4) := by show _ = _; unfold ft; rw [if_neg hs']
        have FX : Hid (fx X1 X3 x = X1 + dx ((X3 + x.k % 4) % 4) * (1 + x.g % 4)) := by show _ = _; unfold fx; rw [if_neg hs', FT.out]
        have FY : Hid (fy X2 X3 x = X2 + dy ((X3 + x.k % 4) % 4) * (1 + x.g % 4)) := by show _ = _; unfold fy; rw [if_neg hs', FT.out]
        unfold skip at hs
        simp only [Bool.or_eq_false_iff, decide_eq_false_iff_not] at hs
        obtain ⟨⟨h13, hg0⟩, hg5⟩ := hs
        have d1 : (x.k != 13) = true := by simp [h13]
        have d2 : decide (0 ≤ x.g) = true := by simp; omega
        have d3 : decide (x.g ≤ 511) = true := by simp; omega
        obtain ⟨q, hq⟩ : ∃ q, x.g.tmod 4 = q := ⟨_, rfl⟩
        have hq2 : x.g % 4 = q := by rw [← hq, Int.tmod_eq_emod_of_nonneg (by omega)]
        rw [hq2] at FX FY
        have hqb : 0 ≤ q ∧ q < 4 := by omega
        have wq : IntKind.i64.wrap q = q := wrap_id (by omega) (by omega)
        have wq1 : IntKind.i64.wrap (1 + q) = 1 + q := wrap_id (by omega) (by omega)
        have TR := hide (fun u => turned_any (dx X3) (dy X3) x.k u (by have := dx_bd X3; omega) (by have := dy_bd X3; omega))
        rw [rt_dir X3 (x.k % 4) BD.2.2 (by omega)] at TR
        simp only at TR
        obtain ⟨t', ht'⟩ : ∃ t', (X3 + x.k % 4) % 4 = t' := ⟨_, rfl⟩
        rw [ht'] at TR FX FY FT
        have bx := dx_bd t'
        have b2 := dy_bd t'
        have m1 := dmul (dx t') (1 + q) bx (by omega)
        have m2 := dmul (dy t') (1 + q) b2 (by omega)
        rw [Int.mul_comm (dx t')] at m1 FX
        rw [Int.mul_comm (dy t')] at m2 FY
        have wm1 : IntKind.i64.wrap ((1 + q) * dx t') = (1 + q) * dx t' := wrap_id (by omega) (by omega)
        have wm2 : IntKind.i64.wrap ((1 + q) * dy t') = (1 + q) * dy t' := wrap_id (by omega) (by omega)
        obtain ⟨M1, hM1⟩ : ∃ M, (1 + q) * dx t' = M := ⟨_, rfl⟩
        obtain ⟨M2, hM2⟩ : ∃ M, (1 + q) * dy t' = M := ⟨_, rfl⟩
        rw [hM1] at m1 FX wm1
        rw [hM2] at m2 FY wm2
        have ws1 : IntKind.i64.wrap (X1 + M1) = X1 + M1 := wrap_id (by omega) (by omega)
        have ws2 : IntKind.i64.wrap (X2 + M2) = X2 + M2 := wrap_id (by omega) (by omega)
        have PLE : Hid (pl l (k + 1) = (X1 + M1, X2 + M2)) := by show pl l (k + 1) = _; rw [PL1.out, FX.out, FY.out]
        have FIN : Hid ((X1 + M1, X2 + M2, t') = stI (l.take (k + 1))) := by show _ = stI _; rw [ST.out, FX.out, FY.out, FT.out]
        have c1 : (wr.alloc (.cells #[.int .i64 x.k, .int .i64 x.g, .int .i64 x.c, .int .i64 x.a, .int .i64 x.v, .int .i64 x.m, .bool x.s, .bool x.o] 54)).cell? ⟨w.heap.size + 1 + 1, 1, none⟩ = some (.int .i64 (dx X3)) := cell_of RP1.out.hw 1
        have c2 : (wr.alloc (.cells #[.int .i64 x.k, .int .i64 x.g, .int .i64 x.c, .int .i64 x.a, .int .i64 x.v, .int .i64 x.m, .bool x.s, .bool x.o] 54)).cell? ⟨w.heap.size + 1 + 1, 2, none⟩ = some (.int .i64 (dy X3)) := cell_of RP1.out.hw 2
        have v0 : (wr.alloc (.cells #[.int .i64 x.k, .int .i64 x.g, .int .i64 x.c, .int .i64 x.a, .int .i64 x.v, .int .i64 x.m, .bool x.s, .bool x.o] 54)).cell? ⟨E, 0, none⟩ = some (.int .i64 x.k) := cell_of EV1.out 0
        have v1 : (wr.alloc (.cells #[.int .i64 x.k, .int .i64 x.g, .int .i64 x.c, .int .i64 x.a, .int .i64 x.v, .int .i64 x.m, .bool x.s, .bool x.o] 54)).cell? ⟨E, 1, none⟩ = some (.int .i64 x.g) := cell_of EV1.out 1
        clear FX FY FT PL1 ST ht' bx b2
        go_upto_region 7 with fail
        clear hE
        generalize wr.alloc (.cells #[.int .i64 x.k, .int .i64 x.g, .int .i64 x.c, .int .i64 x.a, .int .i64 x.v, .int .i64 x.m, .bool x.s, .bool x.o] 54) = W1 at *
        go_wp2_with fail
        refine (TR.out _).mono ?_
        rintro r w2 ⟨rfl, b2⟩
        have RP2 := hide (RP1.out.below b2)
        have BL2 := hide (btr BL1.out b2)
        have EV2 := hide (heap_below EV1.out b2)
        clear b2 c1 c2 v0 v1 TR
        obtain ⟨D1, HD1⟩ : ∃ D, Hid (dx t' = D) := ⟨_, rfl⟩
        obtain ⟨D2, HD2⟩ : ∃ D, Hid (dy t' = D) := ⟨_, rfl⟩
        rw [HD1.out, HD2.out]
        rw [HD1.out] at hM1
        rw [HD2.out] at hM2
        have c1 : w2.cell? ⟨w.heap.size + 1 + 1, 1, none⟩ = some (.int .i64 (dx X3)) := cell_of RP2.out.hw 1
        have c2 : w2.cell? ⟨w.heap.size + 1 + 1, 2, none⟩ = some (.int .i64 (dy X3)) := cell_of RP2.out.hw 2
        have f1 : w2.frozen? ⟨w.heap.size + 1 + 1, 1, none⟩ = false := frozen_of RP2.out.hw 1
        have f2 : w2.frozen? ⟨w.heap.size + 1 + 1, 2, none⟩ = false := frozen_of RP2.out.hw 2
        have KD := hide (((KB.refl (w.heap.size + 1 + 1) w2).setCell 1 (.int .i64 D1)).setCell 2 (.int .i64 D2))
        have RP3 := hide (RP2.out.setD D1 D2)
        have BL3 := hide (KB.below BL2.out KD.out (by omega))
        have EV3 := hide (KD.out.heap EV2.out (by omega))
        go_upto_region 8 with fail
        clear c1 c2 f1 f2 KD
        generalize (w2.setCell ⟨w.heap.size + 1 + 1, 1, none⟩ (.int .i64 D1)).setCell ⟨w.heap.size + 1 + 1, 2, none⟩ (.int .i64 D2) = W3 at *
        have v1 : W3.cell? ⟨E, 1, none⟩ = some (.int .i64 x.g) := cell_of EV3.out 1
        have g1 : W3.cell? ⟨w.heap.size + 1 + 1, 1, none⟩ = some (.int .i64 D1) := cell_of RP3.out.hw 1
        have g2 : W3.cell? ⟨w.heap.size + 1 + 1, 2, none⟩ = some (.int .i64 D2) := cell_of RP3.out.hw 2
        have h1 : W3.cell? ⟨w.heap.size + 1 + 1 + 1, 0, none⟩ = some (.int .i64 X1) := cell_of RP3.out.ha 0
        have h2 : W3.cell? ⟨w.heap.size + 1 + 1 + 1, 1, none⟩ = some (.int .i64 X2) := cell_of RP3.out.ha 1
        have k1 : W3.frozen? ⟨w.heap.size + 1 + 1 + 1, 0, none⟩ = false := frozen_of RP3.out.ha 0
        have k2 : W3.frozen? ⟨w.heap.size + 1 + 1 + 1, 1, none⟩ = false := frozen_of RP3.out.ha 1
        have RP4 := hide (RP3.out.setA (X1 + M1) (X2 + M2))
        have BL4 := hide (KB.below BL3.out (((KB.refl (w.heap.size + 1 + 1 + 1) W3).setCell 0 (.int .i64 (X1 + M1))).setCell 1 (.int .i64 (X2 + M2))) (by omega))
        go_upto_region 10 with fail
        clear g1 g2 h1 h2 k1 k2 v1
        generalize (W3.setCell ⟨w.heap.size + 1 + 1 + 1, 0, none⟩ (.int .i64 (X1 + M1))).setCell ⟨w.heap.size + 1 + 1 + 1, 1, none⟩ (.int .i64 (X2 + M2)) = W4 at *
        generalize X1 + M1 = Y1 at *
        generalize X2 + M2 = Y2 at *
        have c0 : W4.cell? ⟨w.heap.size + 1 + 1, 0, none⟩ = some (.slice va (k + 1) vc) := cell_of RP4.out.hw 0
        have z0 : W4.frozen? ⟨w.heap.size + 1 + 1, 0, none⟩ = false := frozen_of RP4.out.hw 0
        have a0 : W4.cell? ⟨w.heap.size + 1 + 1 + 1, 0, none⟩ = some (.int .i64 Y1) := cell_of RP4.out.ha 0
        have a1 : W4.cell? ⟨w.heap.size + 1 + 1 + 1, 1, none⟩ = some (.int .i64 Y2) := cell_of RP4.out.ha 1
        have RPB := hide (RP4.out.below (below_alloc W4 (.cells #[.int .i64 Y1, .int .i64 Y2] 33)))
        have BLB := hide (btr BL4.out (below_alloc W4 (.cells #[.int .i64 Y1, .int .i64 Y2] 33)))
        have SRC := hide (two_src W4 (.int .i64 Y1) (.int .i64 Y2) 33)
        go_wp2_with (at_builtin; refine wpList_append_own_at _ rfl _ _ 31 rfl w.heap.size 33 i0 (.agg #[.int .i64 0, .int .i64 0]) 2 16 Try.underlying31 INF.out.1 INF.out.2.1 INF.out.2.2.1 INF.out.2.2.2 rfl (by decide) _ _ _ rfl RPB.out.ow ⟨W4.heap.size, 0, none⟩ 1 1 [.int .i64 Y1, .int .i64 Y2] rfl rfl ?c1 ?c2 ?c3 ?c4 ?c5 ?_)
        case c1 => exact SRC.out
        case c2 => intro u hu; simp at hu; rcases hu with rfl | rfl <;> rfl
        case c3 => unfold maxLen; omega
        case c4 => omega
        case c5 => exact BLB.out.size
        intro v' w3 ho hg3 _ hat
        have B3 : Hid (Below w.heap.size w w3) := BLB.out.grown hg3 BLB.out.size (fun x hx => (RPB.out.ow.lt x hx).1)
        have OW3 : Hid (w3.ownsRow w.heap.size 33 2 v' (k + 1 + 1) (pv (k + 1 + 1) (pl l))) := by
          show World.ownsRow _ _ _ _ _ _ _
          rw [pv_succ, PLE.out]
          exact ho
        obtain ⟨va', vc', rfl⟩ := own_sl OW3.out
        have RP5 := hide (RPB.out.app hg3 OW3.out (by simpa using hat))
        have hw3 := (hg3.block _ (heap_lt RPB.out.hw) (fun e => own_w RPB.out.ow RPB.out.hw e.symm)).trans RPB.out.hw
        have e0 : w3.cell? ⟨w.heap.size + 1 + 1, 0, none⟩ = some (.slice va (k + 1) vc) := cell_of hw3 0
        have y0 : w3.frozen? ⟨w.heap.size + 1 + 1, 0, none⟩ = false := frozen_of hw3 0
        have B4 := hide (KB.below B3.out ((KB.refl (w.heap.size + 1 + 1) w3).setCell 0 (.slice va' (k + 1 + 1) vc')) (by omega))
        clear ho hg3 hat hw3
        go_wp2_with fail
        go_roundw
        case rel => exact ⟨k + 1, _, by omega, by go_num, by rw [← FIN.out]; simp only [HD1.out, HD2.out]; exact RP5.out, B4.out⟩
        case measure => simp [intOf]; omega
      · have FTX : Hid (ft X3 x = X3) := by show _ = _; unfold ft; rw [if_pos hs]
        have FX : Hid (fx X1 X3 x = X1) := by show _ = _; unfold fx; rw [if_pos hs]
        have FY : Hid (fy X2 X3 x = X2) := by show _ = _; unfold fy; rw [if_pos hs]
        have PLE : Hid (pl l (k + 1) = (X1, X2)) := by show pl l (k + 1) = _; rw [PL1.out, FX.out, FY.out]
        have FIN : Hid (stI (l.take (k + 1)) = (X1, X2, X3)) := by show stI _ = _; rw [ST.out, FX.out, FY.out, FTX.out]
        clear FX FY FTX PL1 ST
        have key : ∀ p q r : Bool, (x.k != 13) = p → decide (0 ≤ x.g) = q → decide (x.g ≤ 511) = r → (p && q && r) = false → (p = false ∨ (p = true ∧ q = false) ∨ (p = true ∧ q = true ∧ r = false)) := by
          intro p q r _ _ _ h
          cases p <;> cases q <;> cases r <;> simp_all
        have hk3 := key _ _ _ rfl rfl rfl (by
          unfold skip at hs
          rw [Bool.eq_false_iff]
          intro h
          simp at h hs
          omega)
        clear key
        have ALL : Hid True := trivial
        rcases hk3 with d1 | ⟨d1, d2⟩ | ⟨d1, d2, d3⟩
        all_goals
          go_upto_region 10 with fail
          clear hE
          generalize wr.alloc (.cells #[.int .i64 x.k, .int .i64 x.g, .int .i64 x.c, .int .i64 x.a, .int .i64 x.v, .int .i64 x.m, .bool x.s, .bool x.o] 54) = W1 at *
          have c0 : W1.cell? ⟨w.heap.size + 1 + 1, 0, none⟩ = some (.slice va (k + 1) vc) := cell_of RP1.out.hw 0
          have z0 : W1.frozen? ⟨w.heap.size + 1 + 1, 0, none⟩ = false := frozen_of RP1.out.hw 0
          have a0 : W1.cell? ⟨w.heap.size + 1 + 1 + 1, 0, none⟩ = some (.int .i64 X1) := cell_of RP1.out.ha 0
          have a1 : W1.cell? ⟨w.heap.size + 1 + 1 + 1, 1, none⟩ = some (.int .i64 X2) := cell_of RP1.out.ha 1
          have RPB := hide (RP1.out.below (below_alloc W1 (.cells #[.int .i64 X1, .int .i64 X2] 33)))
          have BLB := hide (btr BL1.out (below_alloc W1 (.cells #[.int .i64 X1, .int .i64 X2] 33)))
          have SRC := hide (two_src W1 (.int .i64 X1) (.int .i64 X2) 33)
          go_wp2_with (at_builtin; refine wpList_append_own_at _ rfl _ _ 31 rfl w.heap.size 33 i0 (.agg #[.int .i64 0, .int .i64 0]) 2 16 Try.underlying31 INF.out.1 INF.out.2.1 INF.out.2.2.1 INF.out.2.2.2 rfl (by decide) _ _ _ rfl RPB.out.ow ⟨W1.heap.size, 0, none⟩ 1 1 [.int .i64 X1, .int .i64 X2] rfl rfl ?c1 ?c2 ?c3 ?c4 ?c5 ?_)
          case c1 => exact SRC.out
          case c2 => intro u hu; simp at hu; rcases hu with rfl | rfl <;> rfl
          case c3 => unfold maxLen; omega
          case c4 => omega
          case c5 => exact BLB.out.size
          intro v' w3 ho hg3 _ hat
          have B3 : Hid (Below w.heap.size w w3) := BLB.out.grown hg3 BLB.out.size (fun x hx => (RPB.out.ow.lt x hx).1)
          have OW3 : Hid (w3.ownsRow w.heap.size 33 2 v' (k + 1 + 1) (pv (k + 1 + 1) (pl l))) := by
            show World.ownsRow _ _ _ _ _ _ _
            rw [pv_succ, PLE.out]
            exact ho
          obtain ⟨va', vc', rfl⟩ := own_sl OW3.out
          have RP3 := hide (RPB.out.app hg3 OW3.out (by simpa using hat))
          have hw3 := (hg3.block _ (heap_lt RPB.out.hw) (fun e => own_w RPB.out.ow RPB.out.hw e.symm)).trans RPB.out.hw
          have e0 : w3.cell? ⟨w.heap.size + 1 + 1, 0, none⟩ = some (.slice va (k + 1) vc) := cell_of hw3 0
          have y0 : w3.frozen? ⟨w.heap.size + 1 + 1, 0, none⟩ = false := frozen_of hw3 0
          have B4 := hide (KB.below B3.out ((KB.refl (w.heap.size + 1 + 1) w3).setCell 0 (.slice va' (k + 1 + 1) vc')) (by omega))
          clear ho hg3 hat hw3
          go_wp2_with fail
          go_roundw
          case rel => exact ⟨k + 1, _, by omega, by go_num, by rw [FIN.out]; exact RP3.out, B4.out⟩
          case measure => simp [intOf]; omega
    · have hlt' : ¬ ((k : Int) < (N : Int)) := by omega
      obtain rfl : k = N := by omega
      rw [TK.out] at rp
      obtain ⟨oa2, c2, e2, -, qa⟩ := own_q rp.ow
      have QA := hide qa
      have RR := hide rp
      clear rp qa
      cases e2
      have g0 : wr.cell? ⟨w.heap.size + 1 + 1, 0, none⟩ = some (.slice va (k + 1) vc) := cell_of RR.out.hw 0
      have g1 : wr.cell? ⟨w.heap.size + 1 + 1, 1, none⟩ = some (.int .i64 (dx (stI l).2.2)) := cell_of RR.out.hw 1
      have g2 : wr.cell? ⟨w.heap.size + 1 + 1, 2, none⟩ = some (.int .i64 (dy (stI l).2.2)) := cell_of RR.out.hw 2
      have r0 : wr.cell? ⟨w.heap.size, 0, none⟩ = some (.slice none 0 0) := cell_of RR.out.hr 0
      have r1 : wr.cell? ⟨w.heap.size, 1, none⟩ = some (.int .i64 0) := cell_of RR.out.hr 1
      have r2 : wr.cell? ⟨w.heap.size, 2, none⟩ = some (.int .i64 0) := cell_of RR.out.hr 2
      have f0 := frozen_of RR.out.hr 0
      have f1 := frozen_of RR.out.hr 1
      have f2 := frozen_of RR.out.hr 2
      have NE := hide (own_w RR.out.ow RR.out.hr)
      generalize dx (stI l).2.2 = D1 at *
      generalize dy (stI l).2.2 = D2 at *
      have E1 : Hid ((((wr.setCell ⟨w.heap.size, 0, none⟩ (.slice va (k + 1) vc)).setCell ⟨w.heap.size, 1, none⟩ (.int .i64 D1)).setCell ⟨w.heap.size, 2, none⟩ (.int .i64 D2)).heap[w.heap.size]? = some (.cells #[.slice va (k + 1) vc, .int .i64 D1, .int .i64 D2] 35 (0, 0))) := Ba.heap_setCell_same (Ba.heap_setCell_same (Ba.heap_setCell_same RR.out.hr _) _) _
      have K1 := hide ((((KB.refl w.heap.size wr).setCell 0 (.slice va (k + 1) vc)).setCell 1 (.int .i64 D1)).setCell 2 (.int .i64 D2))
      have QA2 := hide (q_kb QA.out K1.out NE.out)
      go_wp2_with fail
      exact bodyPost_ret (results_row1 Try.results11 _ _ _ _ rfl (loadVar_wlk E1.out rfl)) rfl ((PR.out _ _).2 ⟨_, _, rfl, QA2.out, KB.below BL.out K1.out (Nat.le_refl _)⟩)
end Fw
end Go.Proofs.Ytgmkknaagbjcmaa
