/- Package cell, over this seat's program: rows of epochs: DeleteFunc. -/
import Derived.Test.YtekdcfdjohlfcaaAa
import Derived.Lib.SliceRun
namespace Go.Proofs.Ytekdcfdjohlfcaa
open Go.ChangeShapes Go.WideShapes Go.ChangeAt Go.RowKit
namespace Ce
open Ck
open Ba (KF Bd Nw hide)

theorem zero_e (w : World) : (zeroValue 61).run Try.prog w = .ok (.int .u64 0) w := by
  cases hi : Try.prog.info? 61 with
  | none => have := info_e; rw [hi] at this; cases this
  | some i0 =>
    have hx := info_e
    rw [hi] at hx
    simp at hx
    simp [zeroValue, typeInfo, hi, hx.1]
theorem heap_cells (b : Nat) : ∀ (vs : List Value) (o : Nat) (w : World) (k : Nat), k ≠ b → (w.setCells b o vs).heap[k]? = w.heap[k]?
  | [], _, _, _, _ => rfl
  | v :: r, o, w, k, h => by
    show ((w.setCell ⟨b, o, none⟩ v).setCells b (o + 1) r).heap[k]? = _
    rw [heap_cells b r _ _ k h]
    simp [World.setCell, Array.getElem?_modify, Ne.symm h]
theorem tape_cells (b : Nat) : ∀ (vs : List Value) (o : Nat) (w : World), (w.setCells b o vs).tape = w.tape ∧ (w.setCells b o vs).heap.size = w.heap.size ∧ (w.setCells b o vs).os = w.os ∧ (w.setCells b o vs).output = w.output
  | [], _, _ => ⟨rfl, rfl, rfl, rfl⟩
  | v :: r, o, w => by
    have ih := tape_cells b r (o + 1) (w.setCell ⟨b, o, none⟩ v)
    refine ⟨ih.1, ih.2.1.trans (by simp [World.setCell]), ih.2.2.1, ih.2.2.2⟩
/-- what the block holds behind a run of stores -/
theorem row_cells (b : Nat) (t : TypeId) (fr : Nat × Nat) : ∀ (vs : List Value) (o : Nat) (cur : Array Value) (w : World), w.heap[b]? = some (.cells cur t fr) →
    ∃ cur', (w.setCells b o vs).heap[b]? = some (.cells cur' t fr) ∧ cur'.size = cur.size ∧ (∀ k, k < o → cur'[k]? = cur[k]?) ∧ (∀ k, k < vs.length → o + k < cur.size → cur'[o + k]? = vs[k]?) ∧ ∀ k, o + vs.length ≤ k → cur'[k]? = cur[k]?
  | [], o, cur, w, h => ⟨cur, h, rfl, fun _ _ => rfl, fun k hk _ => absurd hk (Nat.not_lt_zero _), fun _ _ => rfl⟩
  | v :: r, o, cur, w, h => by
    obtain ⟨cur', h1, h2, h3, h4, h5⟩ := row_cells b t fr r (o + 1) (cur.setIfInBounds o v) (w.setCell ⟨b, o, none⟩ v) (Ba.heap_setCell_same h v)
    refine ⟨cur', h1, by rw [h2, Array.size_setIfInBounds], fun k hk => ?_, fun k hk hs => ?_, fun k hk => ?_⟩
    · rw [h3 k (by omega), Array.getElem?_setIfInBounds, if_neg (by omega)]
    · cases k with
      | zero =>
        rw [Nat.add_zero, h3 o (by omega), Array.getElem?_setIfInBounds, if_pos rfl, if_pos (by omega)]
        rfl
      | succ k =>
        have := h4 k (by simpa using hk) (by rw [Array.size_setIfInBounds]; omega)
        rw [show o + (k + 1) = o + 1 + k by omega, this, List.getElem?_cons_succ]
    · rw [h5 k (by simp at hk; omega), Array.getElem?_setIfInBounds, if_neg (by simp at hk; omega)]
theorem own_mk {W : World} {g cap : Nat} {cur : Array Value} {m : List Int} (hg : W.heap[g]? = some (.cells cur 61 (0, 0))) (hs : cur.size = cap) (hl : m.length ≤ cap) (hm : cap ≤ maxLen) (hc : ∀ k, k < m.length → cur[k]? = some (.int .u64 (nth m k))) :
    W.ownsRow 0 61 1 (.slice (some ⟨g, 0, none⟩) m.length cap) m.length (us m) := by
  refine ⟨us_len m, .inr ⟨g, cap, cur, rfl, Nat.zero_le _, hg, hl, hm, by omega, ?_⟩⟩
  apply List.ext_getElem?
  intro k
  rw [List.getElem?_take]
  by_cases hk : k < m.length
  · rw [if_pos (by omega), us_at m k hk, ← hc k hk]; simp
  · rw [if_neg (by omega), List.getElem?_eq_none (by rw [us_len]; omega)]
theorem own_cur {W : World} {g cap : Nat} {m : List Int} (h : W.ownsRow 0 61 1 (.slice (some ⟨g, 0, none⟩) m.length cap) m.length (us m)) :
    ∃ cur, W.heap[g]? = some (.cells cur 61 (0, 0)) ∧ cur.size = cap ∧ m.length ≤ cap ∧ cap ≤ maxLen ∧ ∀ k, k < m.length → cur[k]? = some (.int .u64 (nth m k)) := by
  rcases h.2 with ⟨e, -⟩ | ⟨g', cap', cur, e, -, hg, h1, h2, h3, h4⟩
  · cases e
  · simp only [Value.slice.injEq, Option.some.injEq, Addr.mk.injEq, and_true, true_and] at e
    obtain ⟨rfl, rfl⟩ := e
    refine ⟨cur, hg, by omega, h1, h2, fun k hk => ?_⟩
    rw [← us_at m k hk, ← h4, List.getElem?_take, if_pos (by omega)]
    simp

/-- what is left of the first j -/
def fl (p : Int → Bool) (l : List Int) (j : Nat) : List Int := (l.take j).filter fun x => !p x
theorem fl_succ {p : Int → Bool} {l : List Int} {j : Nat} (hj : j < l.length) : fl p l (j + 1) = fl p l j ++ (if p (nth l j) then [] else [nth l j]) := by
  unfold fl
  rw [List.take_succ_eq_append_getElem hj, List.filter_append, nth_lt l j hj]
  cases h : p l[j] <;> simp [h]
theorem fl_le (p : Int → Bool) (l : List Int) (j : Nat) : (fl p l j).length ≤ j := Nat.le_trans (List.length_filter_le _ _) (by simp; omega)
theorem fl_all (p : Int → Bool) (l : List Int) : fl p l l.length = l.filter fun x => !p x := by simp [fl]
theorem fl_pre {p : Int → Bool} {l : List Int} {k : Nat} (h : ∀ j, j < k → p (nth l j) = false) (hk : k ≤ l.length) : fl p l k = l.take k := by
  unfold fl
  rw [List.filter_eq_self]
  intro x hx
  obtain ⟨j, hj, rfl⟩ := List.getElem_of_mem hx
  have hj' : j < k := by simp at hj; omega
  have := h j hj'
  rw [nth_lt l j (by omega)] at this
  simp [this]
theorem nth_app_lt (a b : List Int) (k : Nat) (h : k < a.length) : nth (a ++ b) k = nth a k := by simp [nth, List.getElem?_append_left h]
theorem nth_app_at (a : List Int) (x : Int) : nth (a ++ [x]) a.length = x := by simp [nth]

/-- as it is struck: what is left of the first j stands ahead, the rest from j on as it was -/
structure DI (p : Int → Bool) (l : List Int) (g cap : Nat) (w W : World) (j : Nat) : Prop where
  ex : ∃ cur, W.heap[g]? = some (.cells cur 61 (0, 0)) ∧ cur.size = cap ∧ (∀ k, k < (fl p l j).length → cur[k]? = some (.int .u64 (nth (fl p l j) k))) ∧ ∀ k, j ≤ k → k < l.length → cur[k]? = some (.int .u64 (nth l k))
  gb : w.grownBy W (some g)

theorem DI.drop {p : Int → Bool} {l : List Int} {g cap : Nat} {w W : World} {j : Nat} (h : DI p l g cap w W j) (hj : j < l.length) (hp : p (nth l j) = true) : DI p l g cap w W (j + 1) := by
  obtain ⟨cur, h1, h2, h3, h4⟩ := h.ex
  have e : fl p l (j + 1) = fl p l j := by rw [fl_succ hj, hp]; simp
  exact ⟨⟨cur, h1, h2, by rw [e]; exact h3, fun k hk hl => h4 k (by omega) hl⟩, h.gb⟩
theorem DI.keep {p : Int → Bool} {l : List Int} {g cap : Nat} {w W : World} {j i : Nat} (h : DI p l g cap w W j) (hj : j < l.length) (hc : l.length ≤ cap) (hp : p (nth l j) = false) (hi : (fl p l j).length = i) : DI p l g cap w (W.setCell ⟨g, i, none⟩ (.int .u64 (nth l j))) (j + 1) := by
  subst hi
  obtain ⟨cur, h1, h2, h3, h4⟩ := h.ex
  have hle := fl_le p l j
  have e : fl p l (j + 1) = fl p l j ++ [nth l j] := by rw [fl_succ hj, hp]; simp
  refine ⟨⟨cur.setIfInBounds (fl p l j).length (.int .u64 (nth l j)), Ba.heap_setCell_same h1 _, by rw [Array.size_setIfInBounds]; exact h2, fun k hk => ?_, fun k hk hl => ?_⟩, ?_⟩
  · rw [e] at hk ⊢
    by_cases hk2 : k < (fl p l j).length
    · rw [Array.getElem?_setIfInBounds, if_neg (by omega), nth_app_lt _ _ _ hk2]; exact h3 k hk2
    · obtain rfl : k = (fl p l j).length := by simp at hk; omega
      rw [Array.getElem?_setIfInBounds, if_pos rfl, if_pos (by omega), nth_app_at]
  · rw [Array.getElem?_setIfInBounds, if_neg (by omega)]; exact h4 k (by omega) hl
  · exact ⟨h.gb.os, h.gb.tape, h.gb.output, by have := h.gb.size; simpa [World.setCell] using this, fun k hk hne => by
      have : (W.setCell ⟨g, (fl p l j).length, none⟩ (.int .u64 (nth l j))).heap[k]? = W.heap[k]? := by simp [World.setCell, Array.getElem?_modify, show g ≠ k from fun e => hne (by rw [e])]
      rw [this]; exact h.gb.block k hk hne⟩
theorem own_nil {w : World} {v : Value} (ho : w.ownsRow 0 61 1 v 0 (us [])) : w.ownsRow 0 61 1 v ([] : List Int).length (us []) := ho

set_option maxRecDepth 100000 in
set_option maxHeartbeats 3200000 in
theorem deleteF_any (n : FuncId) (caps : Array Value) (hn : ∀ (a : Array Value) (u : World), (callFunc n a).run Try.prog u = .ok (.enter n a) u) (p : Int → Bool) (v : Value) (l : List Int) (w : World)
    (ho : w.ownsRow 0 61 1 v l.length (us l)) (hp : ∀ W, w.grownBy W v.ownBlock → ∀ k, k < l.length → Calls Try.prog n (#[.int .u64 (nth l k)] ++ caps) W fun r w' => r = .returned (.bool (p (nth l k))) ∧ w' = W) :
    Calls Try.prog 75 #[v, .func (.func n) #[] caps] w fun r w' => ∃ v', r = .returned v' ∧ w'.ownsRow 0 61 1 v' (l.filter fun x => !p x).length (us (l.filter fun x => !p x)) ∧ v'.ownBlock = v.ownBlock ∧ w.grownBy w' v.ownBlock := by
  have gr : w.grownBy w v.ownBlock := ⟨rfl, rfl, rfl, Nat.le_refl _, fun _ _ _ => rfl⟩
  have IX := hide (index_any n caps hn p v l w ho (hp w gr))
  by_cases hall : ∀ j, j < l.length → p (nth l j) = false
  · have e : l.filter (fun x => !p x) = l := by rw [← fl_all, fl_pre hall (Nat.le_refl _), List.take_length]
    rw [idx_none hall] at IX
    rw [e]
    obtain ⟨oa, c, rfl⟩ := own_sl ho
    have HO := hide ho
    have GR := hide gr
    clear hall e hp ho gr hn
    go_enter Try.func75, Try.ntmps75
    go_wp2_with fail
    refine IX.out.mono ?_
    rintro r w1 ⟨rfl, e1⟩
    obtain rfl := e1.symm
    go_wp2_with fail
    go_ret
    exact ⟨_, rfl, HO.out, rfl, GR.out⟩
  · obtain ⟨k0, hk0, hpk, hpre⟩ : ∃ k, k < l.length ∧ p (nth l k) = true ∧ ∀ j, j < k → p (nth l j) = false := by
      have : ∃ i, l.findIdx? p = some i := by
        cases h : l.findIdx? p with
        | some i => exact ⟨i, rfl⟩
        | none =>
          exfalso; apply hall; intro j hj
          rw [nth_lt l j hj]
          have := (List.findIdx?_eq_none_iff.1 h) _ (List.getElem_mem hj)
          simpa using this
      obtain ⟨i, hi⟩ := this
      obtain ⟨h1, h2, h3⟩ := List.findIdx?_eq_some_iff_getElem.1 hi
      refine ⟨i, h1, by rw [nth_lt l i h1]; exact h2, fun j hj => ?_⟩
      rw [nth_lt l j (by omega)]
      have := h3 j hj
      simpa using this
    rw [idx_some hk0 hpre hpk] at IX
    obtain ⟨oa, c, rfl⟩ := own_sl ho
    obtain ⟨g, rfl, -⟩ := own_cell ho hk0
    obtain ⟨cur, hg, hsz, hlc, hcm, hcell⟩ := own_cur ho
    have hm2 : c ≤ 9223372036854775807 := by simp only [maxLen] at hcm; omega
    have D0 : Hid (DI p l g c w w (k0 + 1)) := by
      have d : DI p l g c w w k0 := ⟨⟨cur, hg, hsz, fun k hk => by
        rw [fl_pre hpre (by omega)] at hk ⊢
        have hk' : k < k0 := by simp at hk; omega
        rw [nth_take l k0 k hk']
        exact hcell k (by omega), fun k _ hl => hcell k hl⟩, gr⟩
      exact d.drop hk0 hpk
    have F0 : Hid ((fl p l (k0 + 1)).length = k0) := by
      show (fl p l (k0 + 1)).length = k0
      rw [fl_succ hk0, hpk, fl_pre hpre (by omega)]; simp; omega
    have HP := hide hp
    have hne1 : ((k0 : Int) == -1) = false := beq_eq_false_iff_ne.2 (by omega)
    have FA := hide (fl_all p l)
    clear hall hp ho gr hg hsz hcell hpk hpre
    go_enter Try.func75, Try.ntmps75
    go_wp2_with fail
    refine IX.out.mono ?_
    rintro r w1 ⟨rfl, e1⟩
    obtain rfl := e1.symm
    clear IX
    go_wp2_with fail
    go_loopw [5, 6] (fun i j wr => ∃ (jn m : Nat), jn ≤ l.length ∧ (fl p l jn).length = m ∧ m < jn ∧ i = .int .i64 (m : Int) ∧ j = .int .i64 (jn : Int) ∧ DI p l g c w wr jn) (fun _ j _ => l.length - (intOf j).toNat)
    case atStart => exact ⟨k0 + 1, k0, by omega, F0.out, by omega, rfl, by go_num, D0.out⟩
    case round =>
      clear D0 F0
      obtain ⟨jn, m, hj, hm, hmj, rfl, rfl, di⟩ := hrel
      have DD := hide di
      have HM := hide hm
      clear di hm
      by_cases hlt : jn < l.length
      · have hlt' : (jn : Int) < (l.length : Int) := by omega
        obtain ⟨cur', h1, h2, h3, h4⟩ := DD.out.ex
        have c0 : wr.cell? ⟨g, jn, none⟩ = some (.int .u64 (nth l jn)) := by rw [cell_of h1]; exact h4 jn (Nat.le_refl _) hlt
        have c1 : ∃ u, wr.cell? ⟨g, m, none⟩ = some u := by
          rw [cell_of h1]; exact ⟨_, Array.getElem?_eq_getElem (by omega)⟩
        obtain ⟨u1, c1⟩ := c1
        have f1 : wr.frozen? ⟨g, m, none⟩ = false := Ba.frozen_of h1 m
        have CL := hide (HP.out wr DD.out.gb jn hlt)
        clear h1 h2 h3 h4
        cases hpj : p (nth l jn)
        · have DK := hide (DD.out.keep hlt hlc hpj HM.out)
          have HK : Hid ((fl p l (jn + 1)).length = m + 1) := by
            show (fl p l (jn + 1)).length = m + 1
            rw [fl_succ hlt, hpj]; simp [HM.out]
          rw [hpj] at CL
          clear hpj
          have hml : (m : Int) < (l.length : Int) := by omega
          go_wp2_with fail
          refine CL.out.mono ?_
          rintro r w2 ⟨rfl, e2⟩
          obtain rfl := e2.symm
          clear CL
          go_wp2_with fail
          go_roundw
          case rel => exact ⟨jn + 1, m + 1, by omega, HK.out, by omega, by go_num, by go_num, DK.out⟩
          case measure => simp [intOf]; omega
        · have DK := hide (DD.out.drop hlt hpj)
          have HK : Hid ((fl p l (jn + 1)).length = m) := by
            show (fl p l (jn + 1)).length = m
            rw [fl_succ hlt, hpj]; simp [HM.out]
          rw [hpj] at CL
          clear hpj
          go_wp2_with fail
          refine CL.out.mono ?_
          rintro r w2 ⟨rfl, e2⟩
          obtain rfl := e2.symm
          clear CL
          go_wp2_with fail
          go_roundw
          case rel => exact ⟨jn + 1, m, by omega, HK.out, by omega, rfl, by go_num, DK.out⟩
          case measure => simp [intOf]; omega
      · have hje : jn = l.length := by omega
        have hlt' : ¬ ((jn : Int) < (l.length : Int)) := by omega
        have hml : (m : Int) ≤ (l.length : Int) := by omega
        obtain ⟨cur', h1, h2, h3, -⟩ := DD.out.ex
        have hcl : ∀ ty cc, (Builtin.clear_ #[86] ty #[.slice (some ⟨g, m, none⟩) (l.length - m) cc]).run Try.prog wr = .ok (.tuple #[]) (wr.setCells g m (List.replicate (l.length - m) (.int .u64 0))) :=
          fun ty cc => Lib.run_clear_slice _ _ _ ty _ Try.underlying86 zero_e rfl rfl g m (l.length - m) cc (by omega) (fun t ht => by rw [cell_of h1, Array.getElem?_eq_getElem (by omega)]; rfl) (fun t _ => Ba.frozen_of h1 _)
        obtain ⟨cur2, k1, k2, k3, -, -⟩ := row_cells g 61 (0, 0) (List.replicate (l.length - m) (.int .u64 0)) m cur' wr h1
        have FIN : Hid ((wr.setCells g m (List.replicate (l.length - m) (.int .u64 0))).ownsRow 0 61 1 (.slice (some ⟨g, 0, none⟩) m c) (l.filter fun x => !p x).length (us (l.filter fun x => !p x)) ∧ w.grownBy (wr.setCells g m (List.replicate (l.length - m) (.int .u64 0))) (some g)) := by
          have e : (l.filter fun x => !p x).length = m := by rw [← FA.out, ← hje]; exact HM.out
          refine ⟨?_, ?_⟩
          · rw [hje, FA.out] at h3
            have := own_mk (m := l.filter fun x => !p x) k1 (by rw [k2, h2]) (by omega) hcm (fun k hk => by rw [k3 k (by omega)]; exact h3 k hk)
            rw [e] at this ⊢
            exact this
          · have gb := DD.out.gb
            have tc := tape_cells g (List.replicate (l.length - m) (.int .u64 0)) m wr
            exact ⟨tc.2.2.1.trans gb.os, tc.1.trans gb.tape, tc.2.2.2.trans gb.output, by rw [tc.2.1]; exact gb.size, fun k hk hne => (heap_cells g _ m wr k (fun e => hne (by rw [e]))).trans (gb.block k hk hne)⟩
        have hmc : ¬ (c = m) := by omega
        clear h1 h2 h3 k1 k2 k3 DD HM FA
        generalize hW : wr.setCells g m (List.replicate (l.length - m) (.int .u64 0)) = W2 at *
        go_wp2_with fail
        go_ret
        exact ⟨_, rfl, FIN.out.1, rfl, FIN.out.2⟩
end Ce
end Go.Proofs.Ytekdcfdjohlfcaa
