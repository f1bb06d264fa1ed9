/- Layer 27 (walk), over this seat's program: rows of complex numbers; Path, End. -/
import Derived.Test.YtgmkknaagbjcmaaFw2
import Derived.Maps.AppendAt
import Derived.OwnWalk
namespace Go.Proofs.Ytgmkknaagbjcmaa
open Go.ChangeShapes Go.WideShapes Go.ChangeAt Go.RowKit
namespace Fw
open Ba Fl

def cv (ws : List (Nat × Nat)) : List Value := ws.map fun p => .complex .f64 p.1 p.2
theorem cv_app (l m : List (Nat × Nat)) : cv (l ++ m) = cv l ++ cv m := by simp [cv]
theorem cv_one (l : List (Nat × Nat)) : ∀ u ∈ cv l, u.oneCell' = true := by
  intro u hu
  obtain ⟨b, -, rfl⟩ := List.mem_map.1 hu
  rfl
theorem info_cx : (Try.prog.info? 28).map (fun i => (i.zero, i.size, i.bytes)) = some (some (.complex .f64 0 0), 1, 16) := by kernel_rfl
/-- a row of our own: complex numbers that stand for the places f -/
def ZR (w : World) (base : Nat) (v : Value) (n : Nat) (f : Nat → Int × Int) : Prop := ∃ ws : List (Nat × Nat), ws.length = n ∧ w.ownsRow base 28 1 v n (cv ws) ∧ ∀ i p, ws[i]? = some p → Hi p.1 (f i).1 ∧ Hi p.2 (f i).2
/-- complex numbers in memory that stand for the places f -/
def ZAt (w : World) (oa : Option Addr) (n : Nat) (f : Nat → Int × Int) : Prop := ∀ i, i < n → ∃ b off p q, oa = some ⟨b, off, none⟩ ∧ w.cell? ⟨b, off + i, none⟩ = some (.complex .f64 p q) ∧ Hi p (f i).1 ∧ Hi q (f i).2
theorem ZAt.below {w w' : World} {oa : Option Addr} {n : Nat} {f : Nat → Int × Int} (h : ZAt w oa n f) (hb : Below w.heap.size w w') : ZAt w' oa n f := by
  intro i hi
  obtain ⟨b, off, p, q, e, hc, h1, h2⟩ := h i hi
  exact ⟨b, off, p, q, e, (hb.cell (World.block_lt_of_cell? w _ hc)).trans hc, h1, h2⟩
theorem ZAt.congr {w : World} {oa : Option Addr} {n : Nat} {f g : Nat → Int × Int} (h : ZAt w oa n f) (hg : ∀ i, i < n → g i = f i) : ZAt w oa n g := by
  intro i hi
  obtain ⟨b, off, p, q, e, hc, h1, h2⟩ := h i hi
  exact ⟨b, off, p, q, e, hc, by rw [hg i hi]; exact h1, by rw [hg i hi]; exact h2⟩
theorem ZR.nil (w : World) (base : Nat) (f : Nat → Int × Int) : ZR w base (.slice none 0 0) 0 f := ⟨[], rfl, World.ownsRow_nil _ _ _ _, fun i p h => by simp at h⟩
theorem ZR.at {w : World} {base : Nat} {v : Value} {n : Nat} {f : Nat → Int × Int} (h : ZR w base v n f) : ∃ oa c, v = .slice oa n c ∧ n ≤ c ∧ ZAt w oa n f := by
  obtain ⟨ws, hl, ho, hi⟩ := h
  rcases ho.2 with ⟨rfl, rfl⟩ | ⟨g, cap, cur, rfl, -, hg, h1, -, -, h3⟩
  · exact ⟨none, 0, rfl, Nat.le_refl _, fun i h => absurd h (Nat.not_lt_zero _)⟩
  · refine ⟨_, _, rfl, h1, fun i hin => ?_⟩
    obtain ⟨p, hp⟩ : ∃ p, ws[i]? = some p := ⟨_, List.getElem?_eq_getElem (by omega)⟩
    refine ⟨g, 0, p.1, p.2, rfl, ?_, (hi i p hp).1, (hi i p hp).2⟩
    rw [Nat.zero_add, cell_of hg]
    have e1 : (cv ws)[i]? = some (.complex .f64 p.1 p.2) := by simp [cv, hp]
    rw [← h3, List.getElem?_take, if_pos (by omega)] at e1
    simpa using e1
theorem ZR.below {w w' : World} {base : Nat} {v : Value} {n : Nat} {f : Nat → Int × Int} (h : ZR w base v n f) (hb : Below w.heap.size w w') : ZR w' base v n f := by
  obtain ⟨ws, hl, ho, hi⟩ := h
  exact ⟨ws, hl, own_below ho hb, hi⟩
theorem ZR.mk {w' : World} {base : Nat} {v' : Value} {n : Nat} {f g : Nat → Int × Int} {ws : List (Nat × Nat)} {a b : Nat} (hl : ws.length = n) (hi : ∀ i p, ws[i]? = some p → Hi p.1 (f i).1 ∧ Hi p.2 (f i).2)
    (ho : w'.ownsRow base 28 1 v' (n + 1) (cv ws ++ [.complex .f64 a b])) (hg : ∀ i, i < n → g i = f i) (h1 : Hi a (g n).1) (h2 : Hi b (g n).2) : ZR w' base v' (n + 1) g := by
  refine ⟨ws ++ [(a, b)], by simp [hl], by rw [cv_app]; exact ho, fun i p hp => ?_⟩
  by_cases hin : i < n
  · rw [List.getElem?_append_left (by omega)] at hp
    rw [hg i hin]; exact hi i p hp
  · have : i = n := by
      have := (List.getElem?_eq_some_iff.1 hp).1
      simp [hl] at this; omega
    subst this
    rw [List.getElem?_append_right (by omega), hl, Nat.sub_self] at hp
    simp at hp
    subst hp
    exact ⟨h1, h2⟩
theorem ZR.one (w : World) (base : Nat) (hb : base ≤ w.heap.size) {a b : Nat} {f : Nat → Int × Int} (h1 : Hi a (f 0).1) (h2 : Hi b (f 0).2) : ZR (w.alloc (.cells #[.complex .f64 a b] 28)) base (.slice (some ⟨w.heap.size, 0, none⟩) 1 1) 1 f := by
  refine ⟨[(a, b)], rfl, ⟨rfl, .inr ⟨w.heap.size, 1, #[.complex .f64 a b], rfl, hb, heap_new _ _, Nat.le_refl _, by unfold maxLen; omega, rfl, rfl⟩⟩, fun i p hp => ?_⟩
  cases i with
  | zero => simp at hp; subst hp; exact ⟨h1, h2⟩
  | succ i => simp at hp
theorem own_kb {w w' : World} {P base size : Nat} {e : TypeId} {v : Value} {n : Nat} {xs : List Value} (h : w.ownsRow base e size v n xs) (k : KB P w w') (hn : v.ownBlock ≠ some P) : w'.ownsRow base e size v n xs := by
  refine ⟨h.1, ?_⟩
  rcases h.2 with q | ⟨g, cap, cur, q1, q2, q3, q4⟩
  · exact .inl q
  · refine .inr ⟨g, cap, cur, q1, q2, k.heap q3 ?_, q4⟩
    subst q1; intro e; subst e; exact hn rfl
theorem own_sl {w : World} {base : Nat} {e : TypeId} {size n : Nat} {v : Value} {xs : List Value} (h : w.ownsRow base e size v n xs) : ∃ oa c, v = .slice oa n c := by
  rcases h.2 with ⟨rfl, rfl⟩ | ⟨g, cap, cr, rfl, -⟩
  · exact ⟨none, 0, rfl⟩
  · exact ⟨_, _, rfl⟩
theorem own_wt {w : World} {P base : Nat} {v : Value} {n : Nat} {xs : List Value} {a b : Nat} {t : Int} (h : w.ownsRow base 28 1 v n xs) (p : WA w P a b t) : v.ownBlock ≠ some P := by
  rcases h.2 with ⟨rfl, -⟩ | ⟨g, cap, cur, rfl, -, q3, -⟩
  · intro e; cases e
  · intro e; cases e; unfold WA at p; rw [q3] at p; cases p

/-- the walker's state in whole numbers -/
def stI (l : List Ev) : Int × Int × Int := l.foldl (fun s e => (fx s.1 s.2.2 e, fy s.2.1 s.2.2 e, ft s.2.2 e)) (0, 0, 0)
theorem stI_snoc (l : List Ev) (e : Ev) : stI (l ++ [e]) = (fx (stI l).1 (stI l).2.2 e, fy (stI l).2.1 (stI l).2.2 e, ft (stI l).2.2 e) := by simp [stI]
theorem stI_take {l : List Ev} {k : Nat} {e : Ev} (h : l[k]? = some e) : stI (l.take (k + 1)) = (fx (stI (l.take k)).1 (stI (l.take k)).2.2 e, fy (stI (l.take k)).2.1 (stI (l.take k)).2.2 e, ft (stI (l.take k)).2.2 e) := by
  rw [List.take_add_one, h]; exact stI_snoc _ _
/-- the k'th place -/
def pl (l : List Ev) (k : Nat) : Int × Int := ((stI (l.take k)).1, (stI (l.take k)).2.1)
theorem st_bd (l : List Ev) : ∀ k : Nat, k ≤ l.length → (-(4 * (k : Int)) ≤ (stI (l.take k)).1 ∧ (stI (l.take k)).1 ≤ 4 * (k : Int)) ∧ (-(4 * (k : Int)) ≤ (stI (l.take k)).2.1 ∧ (stI (l.take k)).2.1 ≤ 4 * (k : Int)) ∧ (0 ≤ (stI (l.take k)).2.2 ∧ (stI (l.take k)).2.2 < 4)
  | 0, _ => by simp [stI]
  | k + 1, hk => by
    obtain ⟨h1, h2, h3⟩ := st_bd l k (by omega)
    obtain ⟨e, he⟩ : ∃ e, l[k]? = some e := ⟨_, List.getElem?_eq_getElem (by omega)⟩
    rw [stI_take he]
    have a1 := fx_bd (stI (l.take k)).1 (stI (l.take k)).2.2 e
    have a2 := fy_bd (stI (l.take k)).2.1 (stI (l.take k)).2.2 e
    have a3 := ft_bd e h3
    refine ⟨?_, ?_, a3⟩ <;> (simp only; omega)
/-- what Path hands back -/
def PaR (w : World) (l : List Ev) (r : Ending) (w' : World) : Prop := ∃ oa c, r = .returned (.tuple #[.slice oa (l.length + 1) c, .int .i64 0]) ∧ l.length + 1 ≤ c ∧ ZAt w' oa (l.length + 1) (pl l) ∧ Below w.heap.size w w'
theorem path_long (oa : Option Addr) (n c : Nat) (w : World) (hn : 2000 < n) (hm : n ≤ maxLen) :
    Calls Try.prog 9 #[.slice oa n c] w fun r w' => r = .returned (.tuple #[.slice none 0 0, .int .i64 2]) ∧ w' = w := by
  unfold maxLen at hm
  have d1 : decide ((2000 : Int) < (n : Int)) = true := by simp; omega
  have d2 : decide (2000 < n) = true := by simp; omega
  go_enter Try.func9, Try.ntmps9
  go_wp2_with fail
  go_ret2
  exact ⟨rfl, rfl⟩
set_option maxRecDepth 100000 in
set_option maxHeartbeats 3200000 in
theorem path_any (oa : Option Addr) (l : List Ev) (c : Nat) (w : World) (hA : EsAt w oa l) (hl : l.length ≤ 2000) :
    Calls Try.prog 9 #[.slice oa l.length c] w fun r w' => PaR w l r w' := by
  have HA := hide hA
  clear hA
  obtain ⟨i0, hi, hz0, hz1, hz2⟩ := info_parts info_cx
  have INF := hide (And.intro hi (And.intro hz0 (And.intro hz1 hz2)))
  clear hi hz0 hz1 hz2
  obtain ⟨N, hN⟩ : ∃ N, l.length = N := ⟨_, rfl⟩
  have HN := hide hN
  have d1 : decide ((2000 : Int) < (N : Int)) = false := by simp; omega
  have d2 : decide (2000 < N) = false := by simp; omega
  have PR : Hid (∀ r w', PaR w l r w' ↔ ∃ oa c, r = .returned (.tuple #[.slice oa (N + 1) c, .int .i64 0]) ∧ N + 1 ≤ c ∧ ZAt w' oa (N + 1) (pl l) ∧ Below w.heap.size w w') := fun r w' => by unfold PaR; rw [hN]
  rw [hN] at hl ⊢
  clear hN
  have p0 : Hid (WA (w.alloc (.cells #[.complex .f64 0 0, .int .i64 0] 56)) w.heap.size 0 0 0) := heap_new _ _
  have p1 := hide (keepW p0.out (below_alloc _ (.cells #[.complex .f64 0 0] 28)))
  have z0 := hide (ZR.one (w.alloc (.cells #[.complex .f64 0 0, .int .i64 0] 56)) w.heap.size (by rw [World.size_alloc]; omega) (f := pl l) Hi.zero Hi.zero)
  rw [World.size_alloc] at z0
  have B0 := hide (btr (below_alloc w (.cells #[.complex .f64 0 0, .int .i64 0] 56)) (below_alloc _ (.cells #[.complex .f64 0 0] 28)))
  go_enter Try.func9, Try.ntmps9
  go_wp2_with fail
  go_loopw [5, 16] (fun rv i wr => ∃ (v : Value) (k a b : Nat), k ≤ N ∧ i = .int .i64 (k : Int) ∧ rv = v ∧ ZR wr w.heap.size v (k + 1) (pl l) ∧ WA wr w.heap.size a b (stI (l.take k)).2.2 ∧ Hi a (stI (l.take k)).1 ∧ Hi b (stI (l.take k)).2.1 ∧ Below w.heap.size w wr) (fun _ i _ => N - (intOf i).toNat)
  case atStart => exact ⟨_, 0, 0, 0, Nat.zero_le _, rfl, rfl, z0.out, p1.out, Hi.zero, Hi.zero, B0.out⟩
  case round =>
    obtain ⟨v, k, a, b, hk, rfl, rfl, zr, wa, ha, hb, bl⟩ := hrel
    clear p0 p1 z0 B0
    have BL := hide bl
    clear bl
    by_cases hlt : k < N
    · have hlt' : (k : Int) < (N : Int) := by omega
      obtain ⟨x, hx⟩ : ∃ x, l[k]? = some x := ⟨_, List.getElem?_eq_getElem (by rw [HN.out]; omega)⟩
      obtain ⟨b1, o1, rfl, -⟩ := HA.out k x hx
      obtain ⟨q0, q1, q2, q3, q4, q5, q6, q7⟩ := (HA.out.below BL.out).read hx
      have ST := hide (stI_take hx)
      have BD := hide (st_bd l k (by rw [HN.out]; omega))
      have PL1 : Hid (pl l (k + 1) = (fx (stI (l.take k)).1 (stI (l.take k)).2.2 x, fy (stI (l.take k)).2.1 (stI (l.take k)).2.2 x)) := by
        show pl l (k + 1) = _
        unfold pl
        rw [ST.out]
      clear hx
      obtain ⟨X, hX⟩ : ∃ X, stI (l.take k) = X := ⟨_, rfl⟩
      rw [hX] at ST BD PL1 ha hb wa
      clear hX
      obtain ⟨X1, X2, X3⟩ := X
      simp only at ST BD PL1 ha hb wa
      have FO := hide (follow_any w.heap.size a b X1 X2 X3 x _ (keepW wa (below_alloc wr (.cells #[.int .i64 x.k, .int .i64 x.g, .int .i64 x.c, .int .i64 x.a, .int .i64 x.v, .int .i64 x.m, .bool x.s, .bool x.o] 54))) ha hb BD.out.2.2 (by have := BD.out.1; omega) (by have := BD.out.2.1; omega))
      unfold evv evc at FO
      obtain ⟨ws, wl, ow, wh⟩ := zr
      obtain ⟨va, vc, rfl⟩ := own_sl ow
      have OW := hide (own_below ow (below_alloc wr (.cells #[.int .i64 x.k, .int .i64 x.g, .int .i64 x.c, .int .i64 x.a, .int .i64 x.v, .int .i64 x.m, .bool x.s, .bool x.o] 54)))
      have WAN := hide (own_wt ow wa)
      have WH := hide wh
      have WL := hide wl
      have BL1 := hide (btr BL.out (below_alloc wr (.cells #[.int .i64 x.k, .int .i64 x.g, .int .i64 x.c, .int .i64 x.a, .int .i64 x.v, .int .i64 x.m, .bool x.s, .bool x.o] 54)))
      clear ow wh wl wa BL
      go_wp2_with fail
      generalize wr.alloc (.cells #[.int .i64 x.k, .int .i64 x.g, .int .i64 x.c, .int .i64 x.a, .int .i64 x.v, .int .i64 x.m, .bool x.s, .bool x.o] 54) = W1 at *
      refine FO.out.mono ?_
      rintro r w2 ⟨rfl, a', b', y1, y2, y3, y4⟩
      have Y1 := hide y1
      have Y2 := hide y2
      have Y3 := hide y3
      have OW2 := hide (own_kb OW.out y4 WAN.out)
      have BL2 := hide (KB.below BL1.out y4 (Nat.le_refl _))
      have c0 : w2.cell? ⟨w.heap.size, 0, none⟩ = some (.complex .f64 a' b') := cell_of y1 0
      have BY := below_alloc w2 (.cells #[.complex .f64 a' b'] 28)
      have OW3 := hide (own_below OW2.out BY)
      have BL3 := hide (btr BL2.out BY)
      have Y1' := hide (keepW y1 BY)
      have SRC := hide (cell_one_new w2 (.complex .f64 a' b') 28)
      clear y1 y2 y3 y4 BY OW OW2 FO
      go_wp2_with (at_builtin; refine wpList_append_own _ rfl _ _ 24 rfl w.heap.size 28 i0 (.complex .f64 0 0) 1 16 Try.underlying24 INF.out.1 INF.out.2.1 INF.out.2.2.1 INF.out.2.2.2 rfl (by decide) _ _ _ rfl OW3.out ⟨w2.heap.size, 0, none⟩ 1 1 [.complex .f64 a' b'] rfl rfl ?c1 ?c2 ?c3 ?c4 ?c5 ?_)
      case c1 => exact SRC.out
      case c2 => exact cv_one [(a', b')]
      case c3 => unfold maxLen; omega
      case c4 => omega
      case c5 => exact BL3.out.size
      intro v' w3 ho hg3 _
      have B3 : Hid (Below w.heap.size w w3) := BL3.out.grown hg3 BL3.out.size (fun x hx => (OW3.out.lt x hx).1)
      have Z3 : Hid (ZR w3 w.heap.size v' (k + 1 + 1) (pl l)) := ZR.mk (f := pl l) WL.out WH.out ho (fun _ _ => rfl) (by rw [PL1.out]; exact Y2.out) (by rw [PL1.out]; exact Y3.out)
      have W3 : Hid (WA w3 w.heap.size a' b' (ft X3 x)) := by
        refine (hg3.block _ (heap_lt Y1'.out) ?_).trans Y1'.out
        exact fun e => WAN.out e.symm
      clear ho hg3
      go_wp2_with fail
      go_roundw
      case rel =>
        first
          | exact ⟨v', k + 1, a', b', by omega, by go_num, rfl, Z3.out, by rw [ST.out]; exact W3.out, by rw [ST.out]; exact Y2.out, by rw [ST.out]; exact Y3.out, B3.out⟩
          | ((repeat apply Exists.intro); exact ⟨⟨v', k + 1, a', b', by omega, by go_num, rfl, Z3.out, by rw [ST.out]; exact W3.out, by rw [ST.out]; exact Y2.out, by rw [ST.out]; exact Y3.out, B3.out⟩, rfl⟩)
      case measure => simp [intOf]; omega
    · have hlt' : ¬ ((k : Int) < (N : Int)) := by omega
      obtain rfl : k = N := by omega
      obtain ⟨va, vc, rfl, hc, za⟩ := zr.at
      have ZA := hide za
      clear zr wa ha hb za
      go_wp2_with fail
      go_ret2
      exact (PR.out _ _).2 ⟨_, _, rfl, hc, ZA.out, BL.out⟩
end Fw
end Go.Proofs.Ytgmkknaagbjcmaa
