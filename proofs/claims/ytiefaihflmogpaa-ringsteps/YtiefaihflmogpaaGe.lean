/- The reference's ring, over this seat's program. -/
import Derived.Test.YtiefaihflmogpaaGc
import Derived.Test.YtiefaihflmogpaaBc
import Derived.Test.YtiefaihflmogpaaBs
import Derived.Deep.RegionHeld3
import Derived.Lib.AppendZeros
import Derived.Laws.AppendOwn
namespace Go.Proofs.Ytiefaihflmogpaa
open Go.ChangeShapes Go.WideShapes Go.ChangeAt Go.RowKit
namespace Rn
open Ba

/-- below G nothing has changed -/
theorem rg_lt {w w' : World} {R s G : Nat} {l : List Int} (h : Rg w R s l) (hb : Below G w w') (hR : R < G) : Rg w' R s l := by
  obtain ⟨v, f, h1, h2, h3, h4, h5⟩ := h
  exact ⟨v, f, h1, h2, h3, h4, (hb.block R hR).trans h5⟩
theorem lt_trans {a b c : World} {G : Nat} (h : Below G a b) (k : Below G b c) : Below G a c := h.trans k
/-- the reference's ring lies in block G, its values above it -/
def RR (w : World) (G s : Nat) (l : List Int) : Prop :=
  ∃ v, w.heap[G]? = some (.cells #[.int .i64 (s : Int), v] 63 (0, 0)) ∧ w.ownsRow (G + 1) 3 1 v l.length (l.map (Value.int .i64)) ∧ l.length ≤ s ∧ s ≤ 4
theorem RR.at {w : World} {G s : Nat} {l : List Int} (h : RR w G s l) : ∃ oa c, w.heap[G]? = some (.cells #[.int .i64 (s : Int), .slice oa l.length c] 63 (0, 0)) ∧ At w oa l ∧ l.length ≤ c := by
  obtain ⟨v, h1, h2, h3, h4⟩ := h
  obtain ⟨oa, c, rfl, hA⟩ := owns_at h2
  refine ⟨oa, c, h1, hA, ?_⟩
  rcases h2.2 with ⟨e, e0⟩ | ⟨g, cap, cur, e, _, _, q, _⟩
  · omega
  · cases e; exact q
theorem RR.le {w : World} {G s : Nat} {l : List Int} (h : RR w G s l) : l.length ≤ s := by
  obtain ⟨v, h1, h2, h3, h4⟩ := h
  exact h3
theorem RR.le4 {w : World} {G s : Nat} {l : List Int} (h : RR w G s l) : s ≤ 4 := by
  obtain ⟨v, h1, h2, h3, h4⟩ := h
  exact h4
theorem RR.below {w w' : World} {G s : Nat} {l : List Int} (h : RR w G s l) (hb : Below w.heap.size w w') : RR w' G s l := by
  obtain ⟨v, h1, h2, h3, h4⟩ := h
  exact ⟨v, heap_below h1 hb, owns_below h2 hb, h3, h4⟩
theorem RR.kb {w w' : World} {G s R : Nat} {l : List Int} (h : RR w G s l) (k : KB R w w') (hR : R < G) : RR w' G s l := by
  obtain ⟨v, h1, h2, h3, h4⟩ := h
  refine ⟨v, k.heap h1 (by omega), ⟨h2.1, ?_⟩, h3, h4⟩
  rcases h2.2 with q | ⟨g, cap, cur, q1, q2, q3, q4⟩
  · exact .inl q
  · exact .inr ⟨g, cap, cur, q1, q2, k.heap q3 (by omega), q4⟩
theorem KB.under {w a b : World} (G : Nat) {N : Nat} (h : Below N w a) (hN : G ≤ N) (k : KB G a b) (hw : G ≤ w.heap.size := by omega) : Below G w b :=
  ⟨k.os.trans h.os, k.tape.trans h.tape, k.output.trans h.output, Nat.le_trans h.size k.size, fun x hx => (k.block x (by have := h.size; omega) (by omega)).trans (h.block x (by omega))⟩
theorem RR.put {w : World} {G s : Nat} {l : List Int} {v0 v : Value} (h1 : w.heap[G]? = some (.cells #[.int .i64 (s : Int), v0] 63 (0, 0))) (h2 : w.ownsRow (G + 1) 3 1 v l.length (l.map (Value.int .i64))) (h3 : l.length ≤ s) (h4 : s ≤ 4) : RR (w.setCell ⟨G, 1, none⟩ v) G s l := by
  refine ⟨v, (Ba.heap_setCell_same h1 v).trans rfl, ⟨h2.1, ?_⟩, h3, h4⟩
  rcases h2.2 with q | ⟨g, cap, cur, q1, q2, q3, q4⟩
  · exact .inl q
  · exact .inr ⟨g, cap, cur, q1, q2, (Below.heap_setCell _ _ _ _ (by show g ≠ G; omega)).trans q3, q4⟩
theorem rnew_err (s : Int) (w : World) (h : s < 0 ∨ 4 < s) :
    Calls Try.prog 19 #[.int .i64 s] w fun r w' => r = .returned (.tuple #[.pointer none, .int .i64 1]) ∧ w' = w := by
  by_cases h1 : s < 0
  · have d1 : decide (s < 0) = true := decide_eq_true (by omega)
    go_enter Try.func19, Try.ntmps19
    go_wp2_with fail
    go_ret2
    exact ⟨rfl, rfl⟩
  · have d1 : decide (s < 0) = false := decide_eq_false (by omega)
    have d2 : decide (4 < s) = true := decide_eq_true (by omega)
    go_enter Try.func19, Try.ntmps19
    go_wp2_with fail
    go_ret2
    exact ⟨rfl, rfl⟩
theorem rnew_ok (s : Nat) (w : World) (h : s ≤ 4) :
    Calls Try.prog 19 #[.int .i64 (s : Int)] w fun r w' => r = .returned (.tuple #[.pointer (some ⟨w.heap.size, 0, none⟩), .int .i64 0]) ∧ RR w' w.heap.size s [] ∧ Below w.heap.size w w' := by
  have d1 : decide ((s : Int) < 0) = false := decide_eq_false (by omega)
  have d2 : decide (4 < (s : Int)) = false := decide_eq_false (by omega)
  go_enter Try.func19, Try.ntmps19
  go_wp2_with fail
  go_ret2
  exact ⟨rfl, ⟨_, heap_new _ _, World.ownsRow_nil _ _ _ _, Nat.zero_le _, h⟩, below_alloc _ _⟩
theorem rat_any (G s : Nat) (l : List Int) (i : Int) (w : World) (h : RR w G s l) :
    Calls Try.prog 28 #[.pointer (some ⟨G, 0, none⟩), .int .i64 i] w fun r w' => r = .returned (.tuple #[.int .i64 (atv l i), .int .i64 (ate l i)]) ∧ w' = w := by
  obtain ⟨oa, c, h1, hA, _⟩ := h.at
  have y1 := cell_of h1 1
  simp at y1
  clear h h1
  unfold atv ate
  by_cases hi : i < 0
  · have d1 : decide (i < 0) = true := decide_eq_true hi
    simp only [if_pos (show i < 0 ∨ (l.length : Int) ≤ i from .inl hi)]
    clear hA
    go_enter Try.func28, Try.ntmps28
    go_wp2_with fail
    go_ret2
    exact ⟨rfl, rfl⟩
  · have d1 : decide (i < 0) = false := decide_eq_false hi
    by_cases hj : (l.length : Int) ≤ i
    · have d2 : decide ((l.length : Int) ≤ i) = true := decide_eq_true hj
      simp only [if_pos (show i < 0 ∨ (l.length : Int) ≤ i from .inr hj)]
      clear hA
      go_enter Try.func28, Try.ntmps28
      go_wp2_with fail
      go_ret2
      exact ⟨rfl, rfl⟩
    · have d2 : decide ((l.length : Int) ≤ i) = false := decide_eq_false hj
      simp only [if_neg (show ¬ (i < 0 ∨ (l.length : Int) ≤ i) by omega)]
      obtain ⟨n, rfl⟩ := Int.eq_ofNat_of_zero_le (show 0 ≤ i by omega)
      obtain ⟨b, off, rfl, hc⟩ := hA n (by omega)
      clear hA
      have hlt : (n : Int) < (l.length : Int) := by omega
      go_enter Try.func28, Try.ntmps28
      go_wp2_with fail
      go_ret2
      exact ⟨rfl, rfl⟩
set_option maxHeartbeats 1600000 in
theorem rpush_any (G s : Nat) (l : List Int) (x : Int) (w : World) (h : RR w G s l) :
    Calls Try.prog 22 #[.pointer (some ⟨G, 0, none⟩), .int .i64 x] w fun r w' => r = .returned (.int .i64 (pe s l)) ∧ RR w' G s (pl s l x) ∧ FT G 3 w w' := by
  obtain ⟨v, h1, h2, h3, h4⟩ := h
  obtain ⟨oa, c, rfl, _⟩ := owns_at h2
  have y0 := cell_of h1 0
  have y1 := cell_of h1 1
  simp at y0 y1
  by_cases hl : l.length < s
  · have d1 : decide ((s : Int) ≤ (l.length : Int)) = false := decide_eq_false (by omega)
    unfold pe pl
    simp only [if_pos hl]
    cases hi : Try.prog.info? 3 with
    | none => have := Ba.info_int; rw [hi] at this; cases this
    | some i0 =>
    have hx := Ba.info_int
    rw [hi] at hx
    simp at hx
    have INF := hide (And.intro hi hx)
    clear hx hi
    have HG := hide h1
    have hG := heap_lt h1
    have BB : Below w.heap.size w (w.drew.alloc (.cells #[.int .i64 x] 3)) := btr (bdrew1 w) (below_alloc _ _)
    have OW := hide (owns_below h2 BB)
    have HB := hide BB
    have SRC := hide (cell_one_new w.drew (.int .i64 x) 3)
    clear h1 h2 BB
    go_enter Try.func22, Try.ntmps22
    go_wp2_with fail
    go_quiet (fail)
    go_wp2_with (at_builtin; refine wpList_append_own _ rfl _ _ 24 rfl (G + 1) 3 i0 (.int .i64 0) 1 8 Try.underlying24 INF.out.1 INF.out.2.1 INF.out.2.2.1 INF.out.2.2.2 rfl (by decide) _ _ _ rfl OW.out ⟨w.heap.size, 0, none⟩ 1 1 [.int .i64 x] rfl rfl ?c1 ?c2 ?c3 ?c4 ?c5 ?_)
    case c1 => exact SRC.out
    case c2 => intro u hu; simp at hu; subst hu; rfl
    case c3 => unfold maxLen; omega
    case c4 => omega
    case c5 => show G + 1 ≤ (w.heap.push _).size; simp; omega
    intro v' w3 hown' hgrow _
    have B3 : Hid (Below (G + 1) w w3) := ((btr (bdrew w nq) (below_alloc _ _)).mono (by omega)).grown hgrow (by show G + 1 ≤ (w.heap.push _).size; simp; omega) (fun x hx => (OW.out.lt x hx).1)
    have T3 : Hid (∀ (k : Nat) (cc : Array Value) (t : TypeId) (fr : Nat × Nat), w.heap[k]? = some (.cells cc t fr) → t ≠ 3 → w3.heap[k]? = some (.cells cc t fr)) := by
      intro k cc t fr hk ht
      have hk1 := heap_below hk (btr (bdrew w nq) (below_alloc _ (.cells #[.int .i64 x] 3)))
      exact (hgrow.block k (heap_lt hk1) (own_ty OW.out (heap_below hk HB.out) ht)).trans hk1
    have G3 := hide ((B3.out.block G (by omega)).trans HG.out)
    have O3 : Hid (w3.ownsRow (G + 1) 3 1 v' (l ++ [x]).length ((l ++ [x]).map (Value.int .i64))) := by
      show World.ownsRow _ _ _ _ _ _ _
      rw [List.map_append, List.length_append]
      exact hown'
    clear hown' hgrow
    obtain ⟨oa', c', rfl, _⟩ := owns_at O3.out
    have z1 := cell_of G3.out 1
    have zf := frozen_of G3.out 1
    simp at z1
    have hlen : (l ++ [x]).length = l.length + 1 := by simp
    go_wp2_with fail
    go_ret
    have R3 := RR.put G3.out O3.out (by rw [hlen]; omega) h4
    have B4 := KB.under G B3.out (Nat.le_succ _) ((KB.refl G w3).setCell 1 (.slice oa' (l ++ [x]).length c'))
    rw [hlen] at R3 B4
    exact ⟨rfl, R3, B4, fun k cc t fr hk ht hG => (Below.heap_setCell _ _ _ _ (by show k ≠ G; exact hG)).trans (T3.out k cc t fr hk ht)⟩
  · have d1 : decide ((s : Int) ≤ (l.length : Int)) = true := decide_eq_true (by omega)
    unfold pe pl
    simp only [if_neg hl]
    have HG : Hid (RR w G s l) := ⟨_, h1, h2, h3, h4⟩
    clear h1 h2
    go_enter Try.func22, Try.ntmps22
    go_wp2_with fail
    go_quiet (fail)
    go_wp2_with fail
    go_ret
    exact ⟨rfl, HG.out.below (bdrew _ _), (bdrew _ _).mono (by obtain ⟨_, q, _⟩ := HG.out; have := heap_lt q; omega), fun k cc t fr hk ht hG => hk⟩
theorem rpop_none (G s : Nat) (w : World) (h : RR w G s []) :
    Calls Try.prog 24 #[.pointer (some ⟨G, 0, none⟩)] w fun r w' => r = .returned (.tuple #[.int .i64 0, .int .i64 6]) ∧ w' = w := by
  obtain ⟨oa, c, h1, hA, _⟩ := h.at
  have y1 := cell_of h1 1
  simp at y1
  clear h h1 hA
  go_enter Try.func24, Try.ntmps24
  go_wp2_with fail
  go_ret2
  exact ⟨rfl, rfl⟩
set_option maxRecDepth 100000 in
set_option maxHeartbeats 1600000 in
theorem rpop_some (G s : Nat) (x : Int) (l : List Int) (w : World) (h : RR w G s (x :: l)) :
    Calls Try.prog 24 #[.pointer (some ⟨G, 0, none⟩)] w fun r w' => r = .returned (.tuple #[.int .i64 x, .int .i64 0]) ∧ RR w' G s l ∧ Below G w w' := by
  obtain ⟨oa, c, h1, hA, hc⟩ := h.at
  have h3 := h.le
  have h4 := h.le4
  clear h
  obtain ⟨b, off, rfl, hx⟩ := hA.head
  rw [List.length_cons] at h1 h3 hc
  have y1 := cell_of h1 1
  simp at y1
  have A1 := hide (at_cs hA.tail)
  have HG := hide h1
  have hG := heap_lt h1
  clear h1 hA
  cases hi : Try.prog.info? 3 with
  | none => have := Ba.info_int; rw [hi] at this; cases this
  | some i0 =>
  have hx2 := Ba.info_int
  rw [hi] at hx2
  simp at hx2
  have INF := hide (And.intro hi hx2)
  clear hx2 hi
  have hsrc : ∀ off' : Nat, (0 < l.length → off' = off + 1) → ∃ ob d W, (Builtin.append_ #[24, 24] 24 #[.slice none 0 0, .slice (some ⟨b, off', none⟩) l.length (c - 1)]).run Try.prog w = .ok (.slice ob l.length d) W ∧ W.ownsRow (G + 1) 3 1 (.slice ob l.length d) l.length (l.map (Value.int .i64)) ∧ Below w.heap.size w W := by
    intro off' ho
    obtain ⟨v', W, hr, h2, h5, _⟩ := run_append_own (P := Try.prog) w (G + 1) 24 24 3 i0 (.int .i64 0) 1 8 Try.underlying24 INF.out.1 INF.out.2.1 INF.out.2.2.1 INF.out.2.2.2 rfl (by decide) (.slice none 0 0) 0 [] (World.ownsRow_nil _ _ _ _) ⟨b, off', none⟩ l.length (c - 1) (l.map (Value.int .i64)) (by simp) (by
      intro j u hj
      have hjl : j < l.length := by
        have := (List.getElem?_eq_some_iff.1 hj).1
        simpa using this
      obtain rfl := ho (by omega)
      obtain ⟨b', o', e, hc⟩ := A1.out j u hj
      simp at e
      obtain ⟨rfl, rfl⟩ := e
      rw [Addr.add_lit]
      exact hc) (by
      intro u hu
      obtain ⟨z, _, rfl⟩ := List.mem_map.1 hu
      rfl) (by unfold maxLen; omega) (by omega) (by omega)
    rw [Nat.zero_add, List.nil_append] at h2
    obtain ⟨ob, d, rfl, _⟩ := owns_at h2
    exact ⟨ob, d, W, hr, h2, (Below.refl _ _).grown h5 (Nat.le_refl _) (fun x hx => by cases hx)⟩
  have fin : ∀ (w2 : World) (v : Value), w2.ownsRow (G + 1) 3 1 v l.length (l.map (Value.int .i64)) → Below w.heap.size w w2 → RR (w2.setCell ⟨G, 1, none⟩ v) G s l ∧ Below G w (w2.setCell ⟨G, 1, none⟩ v) := fun w2 v ho hb => ⟨RR.put (heap_below HG.out hb) ho (by omega) h4, KB.under G hb (by omega) ((KB.refl G w2).setCell 1 v)⟩
  have FIN := hide fin
  clear fin
  by_cases hc1 : c = 1
  · obtain rfl := hc1
    obtain rfl : l = [] := List.eq_nil_of_length_eq_zero (by omega)
    obtain ⟨ob, d, W, hr, ho, hb⟩ := hsrc off (fun h => by simp at h)
    have HR : Hid ((Builtin.append_ #[24, 24] 24 #[.slice none 0 0, .slice (some ⟨b, off, none⟩) 0 0]).run Try.prog w = .ok (.slice ob 0 d) W) := hr
    have HO := hide ho
    have HB := hide hb
    have y1' := cell_of (heap_below HG.out hb) 1
    have zf := frozen_of (heap_below HG.out hb) 1
    simp at y1 y1'
    clear hr ho hb hsrc
    go_enter Try.func24, Try.ntmps24
    go_wp2_with (at_builtin; refine Lib.wpList_append_run _ rfl _ _ 24 24 rfl _ _ rfl rfl _ _ HR.out ?_)
    go_ret2
    exact ⟨rfl, FIN.out _ _ HO.out HB.out⟩
  · obtain ⟨ob, d, W, hr, ho, hb⟩ := hsrc (off + 1) (fun _ => rfl)
    have HR := hide hr
    have HO := hide ho
    have HB := hide hb
    have y1' := cell_of (heap_below HG.out hb) 1
    have zf := frozen_of (heap_below HG.out hb) 1
    simp at y1'
    clear hr ho hb hsrc
    go_enter Try.func24, Try.ntmps24
    go_wp2_with (at_builtin; refine Lib.wpList_append_run _ rfl _ _ 24 24 rfl _ _ rfl rfl _ _ HR.out ?_)
    go_ret2
    exact ⟨rfl, FIN.out _ _ HO.out HB.out⟩
theorem rpop_any (G s : Nat) (l : List Int) (w : World) (h : RR w G s l) :
    Calls Try.prog 24 #[.pointer (some ⟨G, 0, none⟩)] w fun r w' => r = .returned (.tuple #[.int .i64 (nth l 0), .int .i64 (oe l)]) ∧ RR w' G s l.tail ∧ Below G w w' := by
  cases l with
  | nil =>
    refine (rpop_none G s w h).mono ?_
    rintro r w1 ⟨rfl, rfl⟩
    exact ⟨rfl, h, Below.refl _ _⟩
  | cons x l =>
    refine (rpop_some G s x l w h).mono ?_
    rintro r w1 ⟨rfl, h1, h2⟩
    exact ⟨rfl, h1, h2⟩
theorem rturn_any (G s : Nat) (l : List Int) (x : Int) (w : World) (h : RR w G s l) :
    Calls Try.prog 26 #[.pointer (some ⟨G, 0, none⟩), .int .i64 x] w fun r w' => r = .returned (.tuple #[.int .i64 (nth l 0), .int .i64 (oe l)]) ∧ RR w' G s (tl l x) ∧ Below G w w' := by
  cases l with
  | nil =>
    have H := hide h
    clear h
    go_enter Try.func26, Try.ntmps26
    go_wp2_with fail
    refine (rpop_none G s _ H.out).mono ?_
    rintro r w1 ⟨rfl, rfl⟩
    go_wp2_with fail
    go_ret2
    exact ⟨rfl, H.out, Below.refl _ _⟩
  | cons y l =>
    have hle := h.le
    rw [List.length_cons] at hle
    have H := hide h
    have TL : Hid (pl s l x = tl (y :: l) x) := by
      show _ = _
      unfold pl tl
      rw [if_pos (by omega), if_neg (by simp)]
      rfl
    clear h
    go_enter Try.func26, Try.ntmps26
    go_wp2_with fail
    refine (rpop_some G s y l _ H.out).mono ?_
    rintro r w1 ⟨rfl, g1, k1⟩
    have G1 := hide g1
    have K1 := hide k1
    clear g1 k1
    go_wp2_with fail
    refine (rpush_any G s l x _ G1.out).mono ?_
    rintro r w2 ⟨rfl, g2, k2⟩
    rw [TL.out] at g2
    have G2 := hide g2
    have K2 := hide k2.1
    clear g2 k2
    go_wp2_with fail
    go_ret2
    exact ⟨rfl, G2.out, K1.out.trans K2.out⟩
end Rn
end Go.Proofs.Ytiefaihflmogpaa
