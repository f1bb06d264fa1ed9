/- Package crew, over this seat's program: Able, Over. -/
import Derived.Test.YtgpmefbmbfbjcaaMd
namespace Go.Proofs.Ytgpmefbmbfbjcaa
open Go.ChangeShapes Go.WideShapes Go.ChangeAt Go.RowKit
namespace Cr
open Ba

def ic (l : List Int) : List Value := l.map (Value.int .i64)
theorem ic_app (l m : List Int) : ic (l ++ m) = ic l ++ ic m := by simp [ic]
theorem info_i : (Try.prog.info? 3).map (fun i => (i.zero, i.size, i.bytes)) = some (some (.int .i64 0), 1, 8) := by kernel_rfl
theorem own_at {w : World} {base : Nat} {v : Value} {l : List Int} (h : w.ownsRow base 3 1 v l.length (ic l)) : ∃ oa c, v = .slice oa l.length c ∧ At w oa l ∧ l.length ≤ c := by
  rcases h.2 with ⟨rfl, h0⟩ | ⟨g, cap, cur, rfl, _, hg, hc, _, hcs, htk⟩
  · refine ⟨none, 0, by rw [h0], ?_, by omega⟩
    obtain rfl := List.eq_nil_of_length_eq_zero h0
    exact At.nil _ _
  · refine ⟨_, cap, rfl, ?_, hc⟩
    intro k hk
    refine ⟨g, 0, rfl, ?_⟩
    have q : (ic l)[k]? = some (.int .i64 (nth l k)) := by simp [ic, nth, hk]
    rw [← htk, List.getElem?_take_of_lt (by omega)] at q
    rw [Nat.zero_add, cell_of hg]
    simpa using q
theorem able_nil (w : World) :
    Calls Try.prog 18 #[.pointer none] w fun r w' => r = .returned (.slice none 0 0) ∧ w' = w := by
  go_enter Try.func18, Try.ntmps18
  go_wp2_with fail
  refine (all_nil _).mono ?_
  rintro r w1 ⟨rfl, rfl⟩
  go_wp2_with fail
  go_loop [3, 9] (fun l i => l = .slice none 0 0 ∧ i = .int .i64 0) (fun _ i => 0)
  case atStart => exact ⟨rfl, rfl⟩
  case round =>
    obtain ⟨rfl, rfl⟩ := hrel
    go_wp2_with fail
    go_ret
    exact ⟨rfl, rfl⟩
set_option maxRecDepth 100000 in
set_option maxHeartbeats 1600000 in
theorem able_any (B : Nat) (F : Nat → Prop) (l : List Mb) (w : World) (h : Cq 52 59 w B F l) :
    Calls Try.prog 18 #[.pointer (some ⟨B, 0, none⟩)] w fun r w' => ∃ ob d, r = .returned (.slice ob (abl l).length d) ∧ At w' ob (abl l) ∧ Below w.heap.size w w' := by
  cases hi : Try.prog.info? 3 with
  | none => have := info_i; rw [hi] at this; cases this
  | some i0 =>
  have hx2 := info_i
  rw [hi] at hx2
  simp at hx2
  have INF := hide (And.intro hi hx2)
  clear hx2 hi
  have hle := h.le
  obtain ⟨oa, c, h⟩ := h
  have hB := h.lt
  have y0 : w.cell? ⟨B, 0, none⟩ = some (.slice oa l.length c) := cell_of h.hp 0
  have HA := hide h.at.1
  have AL := hide y0
  clear h
  go_enter Try.func18, Try.ntmps18
  go_wp2_with fail
  refine (all_c B oa l.length c _ AL.out).mono ?_
  rintro r w1 ⟨rfl, hw⟩
  subst w1
  go_wp2_with fail
  go_loopw [3, 9] (fun rv i wr => ∃ (v : Value) (k : Nat), k ≤ l.length ∧ i = .int .i64 k ∧ rv = v ∧ wr.ownsRow w.heap.size 3 1 v (abl (l.take k)).length (ic (abl (l.take k))) ∧ Below w.heap.size w wr) (fun _ i _ => l.length - (intOf i).toNat)
  case atStart => exact ⟨_, 0, Nat.zero_le _, rfl, rfl, World.ownsRow_nil _ _ _ _, Below.refl _ _⟩
  case round =>
    obtain ⟨v, k, hk, rfl, rfl, ho, hb⟩ := hrel
    by_cases hlt : k < l.length
    · have hlt' : (k : Int) < (l.length : Int) := by omega
      obtain ⟨x, hx⟩ : ∃ x, l[k]? = some x := ⟨_, List.getElem?_eq_getElem hlt⟩
      obtain ⟨b, rfl, q0, q1, q2⟩ := HA.out.below hb k x hx
      have DT := hide (abl_take hx)
      have hdl : (abl (l.take k)).length ≤ k := by
        have h1 := abl_len (l.take k)
        have h2 := List.length_take_le k l
        omega
      clear hx
      obtain ⟨X, hX⟩ : ∃ X, X = abl (l.take k) := ⟨_, rfl⟩
      rw [← hX] at DT hdl ho
      clear hX
      have BX := below_alloc wr (.cells #[.int .i64 x.p, .int .i64 x.q, .int .i64 x.s] 59)
      by_cases hs : x.s = 0
      · have EX : Hid (abl (l.take (k + 1)) = X ++ [(k : Int)]) := by
          show _ = _
          rw [DT.out, if_pos hs]
        rw [hs] at q2 BX
        have OW1 := own_below ho BX
        have HB1 := btr hb BX
        have BY := below_alloc (wr.alloc (.cells #[.int .i64 x.p, .int .i64 x.q, .int .i64 0] 59)) (.cells #[.int .i64 (k : Int)] 3)
        have OW := hide (own_below OW1 BY)
        have HB := hide (btr HB1 BY)
        have SR := cell_one_new (wr.alloc (.cells #[.int .i64 x.p, .int .i64 x.q, .int .i64 0] 59)) (.int .i64 (k : Int)) 3
        rw [World.size_alloc] at SR
        have SRC := hide SR
        clear OW1 HB1 BY SR ho hb BX DT hs
        go_wp2_with (at_builtin; refine wpList_append_own _ rfl _ _ 42 rfl w.heap.size 3 i0 (.int .i64 0) 1 8 Try.underlying42 INF.out.1 INF.out.2.1 INF.out.2.2.1 INF.out.2.2.2 rfl (by decide) _ _ _ rfl OW.out ⟨wr.heap.size + 1, 0, none⟩ 1 1 [.int .i64 (k : Int)] rfl rfl ?c1 ?c2 ?c3 ?c4 ?c5 ?_)
        case c1 => first | exact SRC.out | exact fun j u hj => hj
        case c2 => intro u hu; simp at hu; subst hu; rfl
        case c3 => unfold maxLen; omega
        case c4 => omega
        case c5 => first | exact HB.out.size | (have := HB.out.size; rw [World.size_alloc, World.size_alloc] at this; exact this)
        intro v' w3 ho hg3 _
        have B3 : Hid (Below w.heap.size w w3) := HB.out.grown hg3 HB.out.size (fun x hx => (OW.out.lt x hx).1)
        have O3 : Hid (w3.ownsRow w.heap.size 3 1 v' (abl (l.take (k + 1))).length (ic (abl (l.take (k + 1))))) := by
          show World.ownsRow _ _ _ _ _ _ _
          rw [EX.out, ic_app, List.length_append]
          exact ho
        clear ho hg3
        go_wp2_with fail
        go_roundw
        case rel =>
          first
            | exact ⟨v', k + 1, by omega, by go_num, rfl, O3.out, B3.out⟩
            | ((repeat apply Exists.intro); exact ⟨⟨v', k + 1, by omega, by go_num, rfl, O3.out, B3.out⟩, rfl⟩)
        case measure => simp [intOf]; omega
      · have hs' : (x.s == 0) = false := by simpa using hs
        have EX : Hid (abl (l.take (k + 1)) = X) := by
          show _ = _
          rw [DT.out, if_neg hs, List.append_nil]
        have O3 : Hid ((wr.alloc (.cells #[.int .i64 x.p, .int .i64 x.q, .int .i64 x.s] 59)).ownsRow w.heap.size 3 1 u3 (abl (l.take (k + 1))).length (ic (abl (l.take (k + 1))))) := by
          show World.ownsRow _ _ _ _ _ _ _
          rw [EX.out]
          exact own_below ho BX
        have B3 := hide (btr hb BX)
        clear ho hb BX DT hs
        go_wp2_with fail
        go_roundw
        case rel =>
          first
            | exact ⟨_, k + 1, by omega, by go_num, rfl, O3.out, B3.out⟩
            | exact ⟨k + 1, by omega, by go_num, O3.out, B3.out⟩
        case measure => simp [intOf]; omega
    · have hlt' : ¬ ((k : Int) < (l.length : Int)) := by omega
      rw [List.take_of_length_le (by omega)] at ho
      obtain ⟨oa', c', hv', hA', _⟩ := own_at ho
      subst hv'
      have HA' := hide hA'
      have HB := hide hb
      clear ho hb hA'
      go_wp2_with fail
      go_ret
      first
        | exact ⟨oa', c', rfl, HA'.out, HB.out⟩
        | exact ⟨oa', ⟨c', rfl⟩, HA'.out, HB.out⟩

theorem over_nil (w : World) :
    Calls Try.prog 15 #[.pointer none] w fun r w' => r = .returned (.int .i64 1) ∧ Below w.heap.size w w' := by
  have A0 := hide (heap_new w (.cells #[.int .i64 0, .int .i64 0, .int .i64 0] 61))
  have B0 := hide (below_alloc w (.cells #[.int .i64 0, .int .i64 0, .int .i64 0] 61))
  have c0 : (w.alloc (.cells #[.int .i64 0, .int .i64 0, .int .i64 0] 61)).cell? ⟨w.heap.size, 0, none⟩ = some (.int .i64 0) := cell_of A0.out 0
  have c1 : (w.alloc (.cells #[.int .i64 0, .int .i64 0, .int .i64 0] 61)).cell? ⟨w.heap.size, 1, none⟩ = some (.int .i64 0) := cell_of A0.out 1
  go_enter Try.func15, Try.ntmps15
  go_wp2_with fail
  refine (all_nil _).mono ?_
  rintro r w1 ⟨rfl, rfl⟩
  go_wp2_with fail
  go_loop [9] (fun i => i = .int .i64 0) (fun i => 0)
  case atStart => rfl
  case round =>
    subst hrel
    go_wp2_with fail
    go_ret
    exact ⟨rfl, B0.out⟩
/-- how many are in each state -/
structure Ct (wr : World) (A : Nat) (l : List Mb) (k : Nat) (n0 n1 n2 : Int) : Prop where
  hp : wr.heap[A]? = some (.cells #[.int .i64 n0, .int .i64 n1, .int .i64 n2] 61 (0, 0))
  b0 : 0 ≤ n0 ∧ n0 ≤ k
  b1 : 0 ≤ n1 ∧ n1 ≤ k
  b2 : 0 ≤ n2 ∧ n2 ≤ k
  h0 : decide (0 < n0) = hasS (l.take k) 0
  h1 : decide (0 < n1) = hasS (l.take k) 1
theorem Ct.below {w w' : World} {A : Nat} {l : List Mb} {k : Nat} {n0 n1 n2 : Int} (h : Ct w A l k n0 n1 n2) (hb : Below w.heap.size w w') : Ct w' A l k n0 n1 n2 := ⟨heap_below h.hp hb, h.b0, h.b1, h.b2, h.h0, h.h1⟩
theorem Ct.add0 {w : World} {A : Nat} {l : List Mb} {k : Nat} {n0 n1 n2 : Int} {x : Mb} (h : Ct w A l k n0 n1 n2) (hx : l[k]? = some x) (hs : x.s = 0) : Ct (w.setCell ⟨A, 0, none⟩ (.int .i64 (n0 + 1))) A l (k + 1) (n0 + 1) n1 n2 := by
  have q0 := h.b0
  have q1 := h.b1
  have q2 := h.b2
  refine ⟨(Ba.heap_setCell_same h.hp _).trans rfl, by omega, by omega, by omega, ?_, ?_⟩
  · rw [hasS_take hx, hs, decide_eq_true (by omega)]; simp
  · rw [hasS_take hx, hs, h.h1]; simp
theorem Ct.add1 {w : World} {A : Nat} {l : List Mb} {k : Nat} {n0 n1 n2 : Int} {x : Mb} (h : Ct w A l k n0 n1 n2) (hx : l[k]? = some x) (hs : x.s = 1) : Ct (w.setCell ⟨A, 1, none⟩ (.int .i64 (n1 + 1))) A l (k + 1) n0 (n1 + 1) n2 := by
  have q0 := h.b0
  have q1 := h.b1
  have q2 := h.b2
  refine ⟨(Ba.heap_setCell_same h.hp _).trans rfl, by omega, by omega, by omega, ?_, ?_⟩
  · rw [hasS_take hx, hs, h.h0]; simp
  · rw [hasS_take hx, hs, decide_eq_true (by omega)]; simp
theorem Ct.add2 {w : World} {A : Nat} {l : List Mb} {k : Nat} {n0 n1 n2 : Int} {x : Mb} (h : Ct w A l k n0 n1 n2) (hx : l[k]? = some x) (hs : x.s = 2) : Ct (w.setCell ⟨A, 2, none⟩ (.int .i64 (n2 + 1))) A l (k + 1) n0 n1 (n2 + 1) := by
  have q0 := h.b0
  have q1 := h.b1
  have q2 := h.b2
  refine ⟨(Ba.heap_setCell_same h.hp _).trans rfl, by omega, by omega, by omega, ?_, ?_⟩
  · rw [hasS_take hx, hs, h.h0]; simp
  · rw [hasS_take hx, hs, h.h1]; simp
set_option maxRecDepth 100000 in
set_option maxHeartbeats 1600000 in
theorem over_any (B : Nat) (F : Nat → Prop) (l : List Mb) (K : Nat) (w : World) (h : PC w B F l) (hn : Bn K l) :
    Calls Try.prog 15 #[.pointer (some ⟨B, 0, none⟩)] w fun r w' => r = .returned (.int .i64 (ovr l)) ∧ Below w.heap.size w w' := by
  have hle := h.le
  have hB := h.lt
  have BA := hide (below_alloc w (.cells #[.int .i64 0, .int .i64 0, .int .i64 0] 61))
  have A0 := hide (heap_new w (.cells #[.int .i64 0, .int .i64 0, .int .i64 0] 61))
  obtain ⟨oa, c, h⟩ := h
  have AL := hide (all_c B oa l.length c _ (cell_of (h.below BA.out).hp 0))
  have HA := hide h.at.1
  have HN := hide hn
  clear h hn
  go_enter Try.func15, Try.ntmps15
  go_wp2_with fail
  have C0 : Hid (Ct (w.alloc (.cells #[.int .i64 0, .int .i64 0, .int .i64 0] 61)) w.heap.size l 0 0 0 0) := ⟨A0.out, by omega, by omega, by omega, rfl, rfl⟩
  clear A0
  generalize w.alloc (.cells #[.int .i64 0, .int .i64 0, .int .i64 0] 61) = W at BA AL C0 ⊢
  refine AL.out.mono ?_
  rintro r w1 ⟨rfl, hw⟩
  subst w1
  go_wp2_with fail
  go_loopw [9] (fun i wr => ∃ (k : Nat) (n0 n1 n2 : Int), k ≤ l.length ∧ i = .int .i64 k ∧ Ct wr w.heap.size l k n0 n1 n2 ∧ Below w.heap.size w wr) (fun i _ => l.length - (intOf i).toNat)
  case atStart => exact ⟨0, 0, 0, 0, Nat.zero_le _, rfl, C0.out, BA.out⟩
  case round =>
    clear C0 BA AL
    obtain ⟨k, n0, n1, n2, hk, rfl, c2, b2⟩ := hrel
    have C2 := hide c2
    have B2 := hide b2
    clear c2 b2
    have hAw := heap_lt C2.out.hp
    have q00 := C2.out.b0
    have q01 := C2.out.b1
    have q02 := C2.out.b2
    have c0 : wr.cell? ⟨w.heap.size, 0, none⟩ = some (.int .i64 n0) := cell_of C2.out.hp 0
    have c1 : wr.cell? ⟨w.heap.size, 1, none⟩ = some (.int .i64 n1) := cell_of C2.out.hp 1
    have c2 : wr.cell? ⟨w.heap.size, 2, none⟩ = some (.int .i64 n2) := cell_of C2.out.hp 2
    have z0 := frozen_of C2.out.hp 0
    have z1 := frozen_of C2.out.hp 1
    have z2 := frozen_of C2.out.hp 2
    by_cases hlt : k < l.length
    · have hlt' : (k : Int) < (l.length : Int) := by omega
      obtain ⟨x, hx⟩ : ∃ x, l[k]? = some x := ⟨_, List.getElem?_eq_getElem hlt⟩
      obtain ⟨b, rfl, q0, q1, q2⟩ := HA.out.below B2.out k x hx
      have hs := HN.out.at hx
      have HX := hide hx
      clear hx
      have hs : x.s = 0 ∨ x.s = 1 ∨ x.s = 2 := by omega
      rcases hs with hs | hs | hs
      · have sl : x.s = 0 := hs
        rw [sl] at q2
        have C3 := hide ((C2.out.add0 HX.out sl).below (below_alloc _ (.cells #[.int .i64 x.p, .int .i64 x.q, .int .i64 0] 59)))
        have B3 : Hid (Below w.heap.size w _) := btr (B2.out.setCell (p := ⟨w.heap.size, 0, none⟩) (Nat.le_refl _) (.int .i64 (n0 + 1))) (below_alloc _ (.cells #[.int .i64 x.p, .int .i64 x.q, .int .i64 0] 59))
        clear sl
        go_wp2_with fail
        go_roundw
        case rel => exact ⟨k + 1, (n0 + 1), n1, n2, by omega, by go_num, C3.out, B3.out⟩
        case measure => simp [intOf]; omega
      · have sl : x.s = 1 := hs
        rw [sl] at q2
        have C3 := hide ((C2.out.add1 HX.out sl).below (below_alloc _ (.cells #[.int .i64 x.p, .int .i64 x.q, .int .i64 1] 59)))
        have B3 : Hid (Below w.heap.size w _) := btr (B2.out.setCell (p := ⟨w.heap.size, 1, none⟩) (Nat.le_refl _) (.int .i64 (n1 + 1))) (below_alloc _ (.cells #[.int .i64 x.p, .int .i64 x.q, .int .i64 1] 59))
        clear sl
        go_wp2_with fail
        go_roundw
        case rel => exact ⟨k + 1, n0, (n1 + 1), n2, by omega, by go_num, C3.out, B3.out⟩
        case measure => simp [intOf]; omega
      · have sl : x.s = 2 := hs
        rw [sl] at q2
        have C3 := hide ((C2.out.add2 HX.out sl).below (below_alloc _ (.cells #[.int .i64 x.p, .int .i64 x.q, .int .i64 2] 59)))
        have B3 : Hid (Below w.heap.size w _) := btr (B2.out.setCell (p := ⟨w.heap.size, 2, none⟩) (Nat.le_refl _) (.int .i64 (n2 + 1))) (below_alloc _ (.cells #[.int .i64 x.p, .int .i64 x.q, .int .i64 2] 59))
        clear sl
        go_wp2_with fail
        go_roundw
        case rel => exact ⟨k + 1, n0, n1, (n2 + 1), by omega, by go_num, C3.out, B3.out⟩
        case measure => simp [intOf]; omega
    · have hlt' : ¬ ((k : Int) < (l.length : Int)) := by omega
      have E0 := hide C2.out.h0
      have E1 := hide C2.out.h1
      rw [List.take_of_length_le (by omega)] at E0 E1
      have EO : Hid (ovr l = if decide (0 < n0) = true then 0 else if decide (0 < n1) = true then 2 else 1) := by
        show _ = _
        unfold ovr
        rw [← E0.out, ← E1.out]
      by_cases h0 : 0 < n0
      · go_wp2_with fail
        go_ret
        exact ⟨ret_int (by rw [EO.out, if_pos (decide_eq_true h0)]), B2.out⟩
      · have d0 : decide (0 < n0) = false := decide_eq_false h0
        by_cases h1 : 0 < n1
        · go_wp2_with fail
          go_ret
          exact ⟨ret_int (by rw [EO.out, d0, if_neg (by simp), if_pos (decide_eq_true h1)]), B2.out⟩
        · have d1 : decide (0 < n1) = false := decide_eq_false h1
          go_wp2_with fail
          go_ret
          exact ⟨ret_int (by rw [EO.out, d0, d1, if_neg (by simp), if_neg (by simp)]), B2.out⟩
end Cr
end Go.Proofs.Ytgpmefbmbfbjcaa
