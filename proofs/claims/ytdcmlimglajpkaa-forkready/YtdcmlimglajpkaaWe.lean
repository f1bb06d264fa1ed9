/- Package pew: List, over this seat's program; rows of waiters. -/
import Derived.Test.YtdcmlimglajpkaaWd
import Derived.Laws.AppendOwn
import Derived.Lib.AppendZeros
namespace Go.Proofs.Ytdcmlimglajpkaa
open Go.ChangeShapes Go.WideShapes Go.ChangeAt Go.RowKit
namespace Pe
open Ba

theorem info_wt : (Try.prog.info? 49).map (fun i => (i.zero, i.size, i.bytes)) = some (some (wv ⟨0, 0, 0⟩), 3, 24) := by kernel_rfl
set_option maxRecDepth 100000 in
theorem list_nil (w : World) :
    Calls Try.prog 55 #[.pointer none] w fun r w' => (∃ oa, r = .returned (.slice oa 0 0)) ∧ Below w.heap.size w w' := by
  cases hi : Try.prog.info? 49 with
  | none => have := info_wt; rw [hi] at this; cases this
  | some i =>
  have hx := info_wt
  rw [hi] at hx
  simp at hx
  obtain ⟨hz, hs, hb⟩ := hx
  have hm : (Instr.makeSlice 73 (.int .i64 0) (.int .i64 0)).run Try.prog w = _ := run_make (P := Try.prog) w 73 49 i _ Try.underlying73 hi hz .i64 .i64 0 0 (by omega) (Int.le_refl _) (by rw [hb]; omega) (by omega)
  have B := hide (below_alloc w (.cells (madeCells (wv ⟨0, 0, 0⟩).cells (Int.toNat 0 * i.size)) 49))
  generalize (w.alloc (.cells (madeCells (wv ⟨0, 0, 0⟩).cells (Int.toNat 0 * i.size)) 49)) = w2 at hm B
  go_enter Try.func55, Try.ntmps55
  go_wp2_with fail
  refine (len_nil _).mono ?_
  rintro r w1 ⟨rfl, rfl⟩
  go_wp2_with fail
  refine (front_nil _).mono ?_
  rintro r _ ⟨rfl, rfl⟩
  go_wp2_with fail
  go_loop [3, 4] (fun l s => l = .slice (some ⟨w1.heap.size, 0, none⟩) 0 0 ∧ s = .pointer none) (fun _ _ => 0)
  case atStart => exact ⟨rfl, rfl⟩
  case round =>
    obtain ⟨rfl, rfl⟩ := hrel
    go_wp2_with fail
    go_ret
    exact ⟨⟨_, rfl⟩, B.out⟩

/-- the cells of waiters -/
def wc (l : List Wt) : List Value := l.flatMap fun x => [.int .i64 x.g, .int .i64 x.c, .int .i64 x.v]
theorem wc_nil : wc [] = [] := rfl
theorem wc_cons (x : Wt) (l : List Wt) : wc (x :: l) = .int .i64 x.g :: .int .i64 x.c :: .int .i64 x.v :: wc l := rfl
theorem wc_app (l m : List Wt) : wc (l ++ m) = wc l ++ wc m := by simp [wc]
theorem wc_len (l : List Wt) : (wc l).length = l.length * 3 := by
  induction l with
  | nil => rfl
  | cons x l ih => rw [wc_cons]; simp; omega
theorem wc_at : ∀ (l : List Wt) (k : Nat) (x : Wt), l[k]? = some x → (wc l)[k * 3]? = some (.int .i64 x.g) ∧ (wc l)[k * 3 + 1]? = some (.int .i64 x.c) ∧ (wc l)[k * 3 + 2]? = some (.int .i64 x.v)
  | [], _, _, h => by simp at h
  | y :: l, 0, x, h => by simp at h; subst h; exact ⟨rfl, rfl, rfl⟩
  | y :: l, k + 1, x, h => by
    rw [wc_cons]
    have := wc_at l k x (by simpa using h)
    rw [show (k + 1) * 3 = k * 3 + 3 by omega]
    exact this
theorem wc_one (l : List Wt) : ∀ u ∈ wc l, u.oneCell' = true := by
  induction l with
  | nil => intro u hu; simp [wc_nil] at hu
  | cons x l ih =>
    intro u hu
    rw [wc_cons] at hu
    simp at hu
    rcases hu with rfl | rfl | rfl | hu
    · rfl
    · rfl
    · rfl
    · exact ih u hu
/-- the cells from oa on are those of the waiters l -/
def WAt (w : World) (oa : Option Addr) (l : List Wt) : Prop :=
  ∀ k x, l[k]? = some x → ∃ b off, oa = some ⟨b, off, none⟩ ∧ w.cell? ⟨b, off + k * 3, none⟩ = some (.int .i64 x.g) ∧ w.cell? ⟨b, off + k * 3 + 1, none⟩ = some (.int .i64 x.c) ∧ w.cell? ⟨b, off + k * 3 + 2, none⟩ = some (.int .i64 x.v)
theorem WAt.nil (w : World) (oa : Option Addr) : WAt w oa [] := fun _ _ h => by simp at h
theorem WAt.below {w w' : World} {oa : Option Addr} {l : List Wt} (h : WAt w oa l) (hb : Below w.heap.size w w') : WAt w' oa l := by
  intro k x hk
  obtain ⟨b, off, e, h0, h1, h2⟩ := h k x hk
  exact ⟨b, off, e, (hb.cell (World.block_lt_of_cell? w _ h0)).trans h0, (hb.cell (World.block_lt_of_cell? w _ h1)).trans h1, (hb.cell (World.block_lt_of_cell? w _ h2)).trans h2⟩
theorem owns_wat {w : World} {base : Nat} {e : TypeId} {v : Value} {l : List Wt} (h : w.ownsRow base e 3 v l.length (wc l)) : ∃ oa c, v = .slice oa l.length c ∧ WAt w oa l ∧ l.length ≤ c ∧ ∀ a, oa = some a → base ≤ a.block := by
  rcases h.2 with ⟨rfl, h0⟩ | ⟨g, cap, cur, rfl, hbase, hg, hc, _, hcs, htk⟩
  · refine ⟨none, 0, by rw [h0], ?_, by omega, fun a e => by cases e⟩
    obtain rfl := List.eq_nil_of_length_eq_zero h0
    exact WAt.nil _ _
  · refine ⟨_, cap, rfl, ?_, hc, fun a e => by cases e; exact hbase⟩
    intro k x hk
    have hkl := (List.getElem?_eq_some_iff.1 hk).1
    obtain ⟨q0, q1, q2⟩ := wc_at l k x hk
    rw [← htk, List.getElem?_take_of_lt (by omega)] at q0 q1 q2
    refine ⟨g, 0, rfl, ?_, ?_, ?_⟩
    · rw [Nat.zero_add, cell_of hg]; simpa using q0
    · rw [Nat.zero_add, cell_of hg]; simpa using q1
    · rw [Nat.zero_add, cell_of hg]; simpa using q2
theorem src3 (w : World) (x : Wt) (t : TypeId) : ∀ j u, (wc [x])[j]? = some u → (w.alloc (.cells #[.int .i64 x.g, .int .i64 x.c, .int .i64 x.v] t)).cell? ((⟨w.heap.size, 0, none⟩ : Addr).add j) = some u := by
  intro j u hj
  rw [Addr.add_lit, Nat.zero_add, cell_of (heap_new _ _)]
  rw [wc_cons, wc_nil] at hj
  rw [← hj]
  simp

set_option maxRecDepth 100000 in
set_option maxHeartbeats 1600000 in
theorem list_new (P : Nat) (l : List Wt) (w : World) (h : Pw w P l) :
    Calls Try.prog 55 #[.pointer (some ⟨P, 0, none⟩)] w fun r w' => ∃ oa c, r = .returned (.slice oa l.length c) ∧ WAt w' oa l ∧ Below w.heap.size w w' ∧ ∀ a, oa = some a → w.heap.size ≤ a.block := by
  cases hi : Try.prog.info? 49 with
  | none => have := info_wt; rw [hi] at this; cases this
  | some i =>
  have hx := info_wt
  rw [hi] at hx
  simp at hx
  have INF := hide (And.intro hi hx)
  obtain ⟨hz, hs, hb⟩ := hx
  have PW := hide h
  have hle := h.le
  obtain ⟨m, rfl, f, h1, h2, h3, h4, h5⟩ := h
  obtain ⟨n, hn⟩ : ∃ n, n = (m.map (·.2)).length := ⟨_, rfl⟩
  have LN := hide (len_any P _ w PW.out)
  rw [← hn] at LN hle
  have hm : (Instr.makeSlice 73 (.int .i64 0) (.int .i64 (n : Int))).run Try.prog w = .ok (.slice (some ⟨w.heap.size, 0, none⟩) 0 n) (w.alloc (.cells (madeCells (wv ⟨0, 0, 0⟩).cells (n * 3)) 49)) := by
    have := run_make (P := Try.prog) w 73 49 i _ Try.underlying73 hi hz .i64 .i64 0 n (by omega) (by omega) (by rw [hb]; omega) (by omega)
    rw [hs] at this
    simpa using this
  have OW := hide (World.ownsRow_made (base := w.heap.size) (e := 49) (size := 3) w (madeCells (wv ⟨0, 0, 0⟩).cells (n * 3)) n (Nat.le_refl _) (by unfold maxLen; omega) (size_madeCells _ _))
  have BW := hide (below_alloc w (.cells (madeCells (wv ⟨0, 0, 0⟩).cells (n * 3)) 49))
  generalize w.alloc (.cells (madeCells (wv ⟨0, 0, 0⟩).cells (n * 3)) 49) = w2 at hm OW BW
  have HC := hide h2
  have ND := hide h3
  have HN := hide hn
  have y0 : w2.cell? ⟨P, 0, none⟩ = some (pt f) := cell_of (heap_below h1 BW.out) 0
  have FR := hide (front_c P (f.map fun b => ⟨b, 0, none⟩) w2 y0)
  clear h1 h2 h3 h4 h5 y0 hn hi hz hs hb PW
  go_enter Try.func55, Try.ntmps55
  go_wp2_with fail
  refine LN.out.mono ?_
  rintro r w1 ⟨rfl, rfl⟩
  go_wp2_with fail
  refine FR.out.mono ?_
  rintro r _ ⟨rfl, rfl⟩
  go_wp2_with fail
  go_loopw [3, 4] (fun lv s wr => ∃ (v : Value) (pre rest : List (Nat × Wt)) (o : Option Nat), lv = v ∧ s = pt o ∧ m = pre ++ rest ∧ Ch w1 o rest none ∧ wr.ownsRow w1.heap.size 49 3 v (pre.map (·.2)).length (wc (pre.map (·.2))) ∧ Below w1.heap.size w1 wr) (fun _ s _ => ms m s)
  case atStart => exact ⟨_, [], m, f, rfl, rfl, rfl, HC.out, OW.out, BW.out⟩
  case round =>
    clear OW BW HC FR LN
    obtain ⟨v, pre, rest, o, rfl, rfl, hmm, hc, ho, hb⟩ := hrel
    cases rest with
    | nil =>
      have e0 : o = none := hc
      subst e0
      rw [List.append_nil] at hmm
      subst hmm
      obtain ⟨oa, c, rfl, hw, _, hnew⟩ := owns_wat ho
      have HW := hide hw
      have HB := hide hb
      have HNW := hide hnew
      clear hw hb ho hc hnew
      rw [show pt none = .pointer none from rfl]
      go_wp2_with fail
      go_ret
      exact ⟨oa, c, rfl, HW.out, HB.out, HNW.out⟩
    | cons nd t =>
      obtain ⟨b, y⟩ := nd
      have MS := hide (ms_ch hmm ND.out hc)
      obtain ⟨rfl, nx, hs, hc2⟩ := hc
      have MT := hide (ms_ch (pre := pre ++ [(b, y)]) (by rw [hmm]; simp) ND.out hc2)
      have hs1 := heap_below hs hb
      have z0 := cell_of hs1 0
      have z1 := cell_of hs1 1
      have z2 := cell_of hs1 2
      have z3 : wr.cell? ⟨b, 3, none⟩ = some (pt nx) := cell_of hs1 3
      simp at z0 z1 z2
      have hpl : (pre.map (·.2)).length ≤ 1024 := by
        have := HN.out
        rw [hmm] at this
        simp at this ⊢
        omega
      have HM := hide hmm
      have HC2 := hide hc2
      have HS := hide hs
      have OW := hide (own_below ho (below_alloc wr (.cells #[.int .i64 y.g, .int .i64 y.c, .int .i64 y.v] 49)))
      have SR := hide (src3 wr y 49)
      have HB := hide (btr hb (below_alloc wr (.cells #[.int .i64 y.g, .int .i64 y.c, .int .i64 y.v] 49)))
      clear hmm hc2 hs hs1 hb
      obtain ⟨X, hX⟩ : ∃ X, X = pre.map (·.2) := ⟨_, rfl⟩
      rw [← hX] at OW hpl ho
      have HX := hide hX
      clear hX
      rw [show pt (some b) = .pointer (some ⟨b, 0, none⟩) from rfl] at *
      unfold pt at z3
      generalize hq : nx.map (fun b => (⟨b, 0, none⟩ : Addr)) = q at z3
      have HQ : Hid (Value.pointer q = pt nx) := by show _ = _; rw [← hq]; rfl
      clear hq ho
      go_wp2_with (at_builtin; refine wpList_append_own _ rfl _ _ 73 rfl w1.heap.size 49 i (wv ⟨0, 0, 0⟩) 3 24 Try.underlying73 INF.out.1 INF.out.2.1 INF.out.2.2.1 INF.out.2.2.2 rfl (by decide) _ _ _ rfl OW.out ⟨wr.heap.size, 0, none⟩ 1 1 (wc [y]) rfl rfl ?c1 ?c2 ?c3 ?c4 ?c5 ?_)
      case c1 => first | exact SR.out | exact fun j u hj => hj
      case c2 => exact wc_one _
      case c3 => unfold maxLen; omega
      case c4 => omega
      case c5 => first | exact HB.out.size | (have := HB.out.size; rw [World.size_alloc] at this; exact this)
      intro v' w3 ho hg _
      have B3 : Hid (Below w1.heap.size w1 w3) := HB.out.grown hg HB.out.size (fun x hx => (OW.out.lt x hx).1)
      have O3 : Hid (w3.ownsRow w1.heap.size 49 3 v' ((pre ++ [(b, y)]).map (·.2)).length (wc ((pre ++ [(b, y)]).map (·.2)))) := by
        show World.ownsRow _ _ _ _ _ _ _
        rw [List.map_append, wc_app, List.length_append, ← HX.out]
        exact ho
      have z4 : w3.cell? ⟨b, 3, none⟩ = some (.pointer q) := by rw [HQ.out]; exact cell_of (heap_below HS.out B3.out) 3
      clear ho hg OW SR HB z0 z1 z2 z3
      go_wp2_with fail
      go_roundw
      case rel => exact ⟨v', pre ++ [(b, y)], t, nx, rfl, HQ.out, by rw [HM.out]; simp, HC2.out, O3.out, B3.out⟩
      case measure =>
        have h1 := MS.out
        have h2 := MT.out
        show ms m (.pointer q) < ms m (.pointer (some ⟨b, 0, none⟩))
        rw [HQ.out, h1, h2]
        simp
theorem list_any (P : Nat) (l : List Wt) (w : World) (h : Pw w P l) :
    Calls Try.prog 55 #[.pointer (some ⟨P, 0, none⟩)] w fun r w' => ∃ oa c, r = .returned (.slice oa l.length c) ∧ WAt w' oa l ∧ Below w.heap.size w w' := by
  refine (list_new P l w h).mono ?_
  rintro r w1 ⟨oa, c, rfl, h1, h2, -⟩
  exact ⟨oa, c, rfl, h1, h2⟩
theorem WAt.keep {w w' : World} {oa : Option Addr} {l : List Wt} (h : WAt w oa l) (hk : ∀ a, oa = some a → w'.heap[a.block]? = w.heap[a.block]?) : WAt w' oa l := by
  intro k x hx
  obtain ⟨b, off, e, h0, h1, h2⟩ := h k x hx
  have q := hk _ e
  simp only at q
  refine ⟨b, off, e, ?_, ?_, ?_⟩
  · rw [← h0]; simp only [World.cell?, q]
  · rw [← h1]; simp only [World.cell?, q]
  · rw [← h2]; simp only [World.cell?, q]
theorem WAt.lt {w : World} {oa : Option Addr} {l : List Wt} (h : WAt w oa l) (hl : 0 < l.length) (a : Addr) (e : oa = some a) : a.block < w.heap.size := by
  obtain ⟨b, off, e2, h0, h1, h2⟩ := h 0 _ (List.getElem?_eq_getElem hl)
  rw [e] at e2
  cases e2
  exact World.block_lt_of_cell? w _ h0
theorem WAt.keep' {w w' : World} {F : Nat → Prop} {oa : Option Addr} {l : List Wt} (h : WAt w oa l) (k : KF F w w') (hn : ∀ a, oa = some a → ¬ F a.block) (hl : 0 < l.length) : WAt w' oa l :=
  h.keep fun a e => k.block a.block (h.lt hl a e) (hn a e)
/-- a list in new blocks stays, whatever is done to F -/
theorem WAt.kf {w w' : World} {F : Nat → Prop} {oa : Option Addr} {l : List Wt} (h : WAt w oa l) (k : KF F w w') (hn : ∀ a, oa = some a → ¬ F a.block) : WAt w' oa l := by
  intro j x hx
  have hl : 0 < l.length := Nat.lt_of_le_of_lt (Nat.zero_le _) (List.getElem?_eq_some_iff.1 hx).1
  exact h.keep' k hn hl j x hx
end Pe
end Go.Proofs.Ytdcmlimglajpkaa
