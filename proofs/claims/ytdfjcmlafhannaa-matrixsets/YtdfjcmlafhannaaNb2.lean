/- Layer 25's reference, over this seat's program: New. -/
import Derived.Test.YtdfjcmlafhannaaNb1
import Derived.Deep.AppendSrc
import Derived.Lib.Slices
import Derived.Lib.AppendZeros
namespace Go.Proofs.Ytdfjcmlafhannaa
open Go.ChangeShapes Go.WideShapes Go.ChangeAt Go.RowKit
namespace Mx
open Ba (KB btr heap_lt cell_of frozen_of ret_bool ret_int bdrew bdrew1 heap_new below_alloc heap_below own_below)

theorem info_b : (Try.prog.info? 4).map (fun i => (i.zero, i.size, i.bytes)) = some (some (.bool false), 1, 1) := by kernel_rfl
theorem info_lb : (Try.prog.info? 52).map (fun i => (i.zero, i.size, i.bytes)) = some (some (.slice none 0 0), 1, 24) := by kernel_rfl
theorem mk_b (w : World) (n : Nat) (hn : n ≤ 1000000) : (Instr.makeSlice 52 (.int .i64 (n : Int)) (.int .i64 (n : Int))).run Try.prog w = .ok (.slice (some ⟨w.heap.size, 0, none⟩) n n) (w.alloc (.cells (madeCells #[.bool false] n) 4)) := by
  obtain ⟨i0, hi, hz0, hz1, hz2⟩ := info_parts info_b
  have := run_make (P := Try.prog) w 52 4 i0 (.bool false) Try.underlying52 hi hz0 .i64 .i64 n n (by omega) (Int.le_refl _) (by rw [hz2]; omega) (by omega)
  rw [hz1] at this
  simpa [Value.cells] using this
theorem own_other {w : World} {base : Nat} {e : TypeId} {v : Value} {n g : Nat} {xs : List Value} {c : Array Value} {t : TypeId} (h : w.ownsRow base e 1 v n xs) (hg : w.heap[g]? = some (.cells c t)) (ht : t ≠ e) : some g ≠ v.ownBlock := by
  intro q
  rcases h.2 with ⟨rfl, _⟩ | ⟨b, cap, cur, rfl, _, hb, _⟩
  · simp [Value.ownBlock] at q
  · simp [Value.ownBlock] at q
    subst q
    rw [hg] at hb
    simp at hb
    exact ht hb.2
theorem step_append_run {ops : Array Oper} (w : World) {o : Oper} {a : Act} {K : Act → World → Prop} {Q : Exit → Act → World → Prop} {E : Prop} (hgd : o.guard = none) (s x : Operand) (t tn : TypeId)
    (ho : o.op = .call { callee := .builtin .append, args := #[s, x], argTypes := #[t, tn] }) (vs vx : Value) (hs : a.eval s = vs) (hx : a.eval x = vx)
    (v' : Value) (w' : World) (hr : (Builtin.append_ #[t, tn] o.type #[vs, vx]).run Try.prog w = .ok v' w') (h : K (a.put o.dst v') w') :
    if Region.wanted o (yielded ops a.tmps) = true then Oper.wp Try.prog o a w K Q else E := by
  have hw : Region.wanted o (yielded ops a.tmps) = true := by simp [Region.wanted, hgd]
  rw [if_pos hw]
  exact Lib.wp_append_run w s x t tn ho vs vx hs hx v' w' hr h
/-- a row is put behind the others: its block b, its header laid as one cell -/
theorem TX.app {w : World} {base n : Nat} {v : Value} {bs : List Nat} {f : Nat → Nat → Bool} (t : TX w base n v bs f) (hl : bs.length ≤ 2000) (hbase : base ≤ w.heap.size) {b : Nat} {cur : Array Value} (hb : w.heap[b]? = some (.cells cur 4)) (hbb : base ≤ b) (hnew : b ∉ bs) {g : Nat → Nat → Bool} (hg : ∀ i k, i < bs.length → k < n → g i k = f i k) (hc : ∀ k, k < n → cur[k]? = some (.bool (g bs.length k)))
    (ad : Nat) (had : w.cell? ⟨ad, 0, none⟩ = some (.slice (some ⟨b, 0, none⟩) n n)) :
    ∃ oa c w', (Builtin.append_ #[49, 49] 49 #[v, .slice (some ⟨ad, 0, none⟩) 1 1]).run Try.prog w = .ok (.slice oa (bs.length + 1) c) w' ∧ TX w' base n (.slice oa (bs.length + 1) c) (bs ++ [b]) g ∧ Below base w w' ∧ (∀ (k : Nat) (d : Array Value) (s : TypeId), w.heap[k]? = some (.cells d s) → s ≠ 52 → w'.heap[k]? = some (.cells d s)) := by
  obtain ⟨i0, hi, hz0, hz1, hz2⟩ := info_parts info_lb
  obtain ⟨v', w6, hr, hown, hgrow, -⟩ := run_append_own (P := Try.prog) w base 49 49 52 i0 (.slice none 0 0) 1 24 Try.underlying49 hi hz0 hz1 hz2 rfl (by decide) _ _ _ t.own ⟨ad, 0, none⟩ 1 1 (rv n [b]) rfl (by
    intro j u hj
    have : j = 0 := by have := (List.getElem?_eq_some_iff.1 hj).1; simp [rv] at this; omega
    subst this
    simp [rv] at hj
    subst hj
    exact had) (rv_one n [b]) (by unfold maxLen; omega) (by omega) hbase
  rw [← rv_app] at hown
  have ho2 : w6.ownsRow base 52 1 v' (bs ++ [b]).length (rv n (bs ++ [b])) := by rw [List.length_append]; exact hown
  obtain ⟨oa, c, rfl⟩ := own_slice hown
  have hk : ∀ (k : Nat) (d : Array Value) (s : TypeId), w.heap[k]? = some (.cells d s) → s ≠ 52 → w6.heap[k]? = some (.cells d s) := fun k d s h hs => (hgrow.block k (heap_lt h) (own_other t.own h hs)).trans h
  refine ⟨oa, c, w6, hr, ⟨ho2, ?_, ?_⟩, (Below.refl base w).grown hgrow hbase (fun x hx => (t.own.lt x hx).1), hk⟩
  · intro i d hd
    by_cases e : i < bs.length
    · rw [List.getElem?_append_left e] at hd
      obtain ⟨h1, cr, h2, h3⟩ := t.row i d hd
      exact ⟨h1, cr, hk _ _ _ h2 (by decide), fun k hkn => by rw [hg i k e hkn]; exact h3 k hkn⟩
    · rw [List.getElem?_append_right (by omega)] at hd
      have : i - bs.length = 0 := by have := (List.getElem?_eq_some_iff.1 hd).1; simp at this; omega
      rw [this] at hd
      simp at hd
      subst hd
      have hi2 : i = bs.length := by omega
      subst hi2
      exact ⟨hbb, cur, hk _ _ _ hb (by decide), hc⟩
  · rw [List.nodup_append]
    refine ⟨t.nd, by simp, fun a ha b' hb' => ?_⟩
    simp at hb'
    subst hb'
    exact fun q => hnew (q ▸ ha)
set_option maxHeartbeats 800000 in
theorem rnew_bad (n : Int) (h : n < 0 ∨ 1024 < n) (w : World) :
    Calls Try.prog 10 #[.int .i64 n] w fun e w' => e = .returned (.tuple #[.pointer none, .int .i64 1]) ∧ w' = w := by
  by_cases h1 : n < 0
  · have a1 : decide (n < 0) = true := by simpa using h1
    clear h h1
    go_enter Try.func10, Try.ntmps10
    go_wp2
    go_ret2
    exact ⟨rfl, rfl⟩
  · have a1 : decide (n < 0) = false := by simpa using h1
    have a2 : decide (1024 < n) = true := by simp; omega
    clear h h1
    go_enter Try.func10, Try.ntmps10
    go_wp2
    go_ret2
    exact ⟨rfl, rfl⟩
/-- nothing is related -/
def noF : Nat → Nat → Bool := fun _ _ => false
set_option maxRecDepth 100000 in
set_option maxHeartbeats 1600000 in
theorem rnew_ok (n : Nat) (h : n ≤ 1024) (w : World) :
    Calls Try.prog 10 #[.int .i64 (n : Int)] w fun e w' => e = .returned (.tuple #[.pointer (some ⟨w.heap.size, 0, none⟩), .int .i64 0]) ∧ (∃ v bs, RX w' w.heap.size w.heap.size n noF v bs) ∧ Below w.heap.size w w' := by
  have a1 : decide ((n : Int) < 0) = false := by simp
  have a2 : decide ((1024 : Int) < (n : Int)) = false := by simp; omega
  have HH := hide h
  obtain ⟨N, hN⟩ : ∃ N, w.heap.size = N := ⟨_, rfl⟩
  have HN := hide hN
  have h0 := heap_new w (.cells #[.slice none 0 0] 51)
  have b0 := below_alloc w (.cells #[.slice none 0 0] 51)
  rw [hN] at h0 b0 ⊢
  have H0 := hide h0
  have B0 := hide b0
  clear h0 b0
  go_enter Try.func10, Try.ntmps10
  go_wp2_with fail
  go_loopw [5] (fun i wr => ∃ (k : Nat) (v : Value) (bs : List Nat), k ≤ n ∧ i = .int .i64 (k : Int) ∧ bs.length = k ∧ wr.heap[N]? = some (.cells #[v] 51) ∧ TX wr N n v bs noF ∧ Below N w wr) (fun i _ => n - (intOf i).toNat)
  case atStart => exact ⟨0, _, [], Nat.zero_le _, rfl, rfl, H0.out, ⟨World.ownsRow_nil _ _ _ _, fun i b hb => by simp at hb, List.nodup_nil⟩, B0.out⟩
  case round =>
    obtain ⟨k, v, bs, hk, rfl, hlen, hhd, tx, bl⟩ := hrel
    by_cases hlt : k < n
    · have hlt' : (k : Int) < (n : Int) := by omega
      obtain ⟨oa, c, rfl⟩ := own_slice tx.own
      have c0 : wr.cell? ⟨N, 0, none⟩ = some (.slice oa bs.length c) := by rw [cell_of hhd]; rfl
      have hsz : N ≤ wr.heap.size := Nat.le_of_lt (heap_lt hhd)
      have hN1 : N < wr.heap.size := heap_lt hhd
      have f0 := frozen_of hhd 0
      have mk : (Instr.makeSlice 52 (.int .i64 (n : Int)) (.int .i64 (n : Int))).run Try.prog wr.drew = .ok (.slice (some ⟨wr.heap.size, 0, none⟩) n n) (wr.drew.alloc (.cells (madeCells #[.bool false] n) 4)) := mk_b wr.drew n (by omega)
      obtain ⟨W1, hW1⟩ : ∃ W1, W1 = wr.drew.alloc (.cells (madeCells #[.bool false] n) 4) := ⟨_, rfl⟩
      have B1 : Below wr.heap.size wr W1 := by rw [hW1]; exact btr (bdrew1 wr) (below_alloc _ _)
      have S1 : W1.heap.size = wr.heap.size + 1 := by rw [hW1]; exact World.size_alloc _ _
      have R1 : W1.heap[wr.heap.size]? = some (.cells (madeCells #[.bool false] n) 4) := by rw [hW1]; exact heap_new wr.drew _
      have B2 := below_alloc W1 (.cells #[.slice (some ⟨wr.heap.size, 0, none⟩) n n] 52)
      have C2 : (W1.alloc (.cells #[.slice (some ⟨wr.heap.size, 0, none⟩) n n] 52)).cell? ⟨wr.heap.size + 1, 0, none⟩ = some (.slice (some ⟨wr.heap.size, 0, none⟩) n n) := by
        have := cell_new1 W1 (.slice (some ⟨wr.heap.size, 0, none⟩) n n) 52
        rw [S1] at this; exact this
      have T2 : TX (W1.alloc (.cells #[.slice (some ⟨wr.heap.size, 0, none⟩) n n] 52)) N n (.slice oa bs.length c) bs noF := (tx.keep fun k _ hk => B1.block k hk).keep fun k _ hk => B2.block k hk
      obtain ⟨oa', c', w6, hr, t6, b6, k6⟩ := T2.app (by omega) (by have := B1.size; have := B2.size; omega) (heap_below R1 B2) (by omega) (fun q => by
        obtain ⟨i, hi⟩ := List.getElem?_of_mem q
        obtain ⟨-, cur, hc, -⟩ := tx.row i _ hi
        have := heap_lt hc
        omega) (g := noF) (fun _ _ _ _ => rfl) (fun k hk => made_at _ _ _ hk) (wr.heap.size + 1) C2
      have HD6 := k6 N _ _ (heap_below (heap_below hhd B1) B2) (by decide)
      have c6 : w6.cell? ⟨N, 0, none⟩ = some (.slice oa bs.length c) := by rw [cell_of HD6]; rfl
      have f6 := frozen_of HD6 0
      have NXT : Hid (∀ u : World, u = w6.setCell ⟨N, 0, none⟩ (.slice oa' (bs.length + 1) c') → (u.heap[N]? = some (.cells #[.slice oa' (bs.length + 1) c'] 51) ∧ TX u N n (.slice oa' (bs.length + 1) c') (bs ++ [wr.heap.size]) noF ∧ Below N w u)) := by
        rintro u rfl
        refine ⟨Ba.heap_setCell_same HD6 _, ?_, ?_⟩
        · refine ⟨⟨t6.own.1, ?_⟩, fun i b hb => ?_, t6.nd⟩
          · rcases t6.own.2 with q | ⟨g, cap, cr, q1, q2, q3, q4⟩
            · exact .inl q
            · exact .inr ⟨g, cap, cr, q1, q2, (heap_set (ne_ty q3 HD6 (by decide))).trans q3, q4⟩
          · obtain ⟨h1, cr, h2, h3⟩ := t6.row i b hb
            exact ⟨h1, cr, (heap_set (ne_ty h2 HD6 (by decide))).trans h2, h3⟩
        · have q1 : Below N w w6 := ((bl.trans (B1.mono hsz)).trans (B2.mono (by omega))).trans b6
          exact q1.setCell (by simp) _
      rw [← hW1] at mk
      have HR := hide hr
      have HLEN := hide hlen
      clear hlen tx hhd bl B1 R1 B2 C2 T2 t6 b6 k6 HD6 hr hN
      have HW := hide hW1
      have y1 : W1.cell? ⟨N, 0, none⟩ = some (.slice oa bs.length c) := by rw [hW1]; exact (cellB c0 (btr (bdrew1 wr) (below_alloc _ _)))
      clear hW1
      go_wp2_with fail
      go_region_law (refine step_append_run _ (by rfl) _ _ _ _ (by rfl) _ _ (by rfl) (by rfl) _ _ HR.out ?_)
      all_goals
        go_wp2_with fail
        go_roundw
        case rel =>
          obtain ⟨x1, x2, x3⟩ := NXT.out _ rfl
          exact ⟨k + 1, _, bs ++ [wr.heap.size], by omega, by go_num, by rw [List.length_append, HLEN.out]; rfl, x1, x2, x3⟩
        case measure => simp [intOf]; omega
    · have hlt' : ¬ ((k : Int) < (n : Int)) := by omega
      obtain rfl : k = n := by omega
      have END : Hid (RX wr N N k noF v bs ∧ Below N w wr) := ⟨⟨HH.out, hhd, Nat.le_refl _, tx, hlen⟩, bl⟩
      clear hlen tx hhd bl
      go_wp2_with fail
      go_ret2
      exact ⟨rfl, ⟨v, bs, END.out.1⟩, END.out.2⟩
end Mx
end Go.Proofs.Ytdfjcmlafhannaa
