/- The reference's number and Decode, over this seat's program. -/
import Derived.Test.YtabbmfaklekojaaDr
namespace Go.Proofs.Ytabbmfaklekojaa
open Go.ChangeShapes Go.WideShapes Go.ChangeAt Go.RowKit
namespace De
open Ba Re

/-- what the reference has read: so many bytes, at G -/
def GS (w : World) (G z : Nat) : Prop := w.heap[G]? = some (.cells #[.int .i64 0, .int .i64 0, .int .i64 0, .slice none 0 0, .bool false, .int .i64 (z : Int)] 29 (0, 0))
theorem tk_le' {L : List Nat} {n k : Nat} (h : tk L = some (n, k)) : 1 ≤ k ∧ k ≤ L.length := by
  cases L with
  | nil => simp [tk] at h
  | cons b t =>
    simp only [tk] at h
    split at h
    · simp at h
      obtain ⟨_, rfl⟩ := h
      simp
    · split at h
      · rename_i q
        simp at h
        obtain ⟨_, rfl⟩ := h
        simp
        omega
      · simp at h
theorem rnumber_none (s : ByteArray) (G z : Nat) (w : World) (h : GS w G z) (hz : z ≤ s.size) (hs : s.size ≤ maxLen) (ht : tk ((nbs s).drop z) = none) :
    Calls Try.prog 29 #[.string s, .pointer (some ⟨G, 0, none⟩)] w fun r w' => r = .returned (.int .i64 (-1)) ∧ GS w' G z ∧ KB G w w' := by
  have c5 := cell_of h 5
  simp at c5
  have HS := hide hs
  unfold maxLen at hs
  have H := hide h
  have HT : Hid (tk (nbs (s.extract z s.size)) = none) := by show _ = _; rw [nsfx rfl]; exact ht
  clear h ht
  go_enter Try.func29, Try.ntmps29
  go_wp2_with fail
  refine (rtake_none _ HT.out _).mono ?_
  rintro r w1 ⟨rfl, b1⟩
  have H1 := hide (heap_below H.out b1)
  have K1 := hide (KB.of (R := G) b1)
  clear b1
  go_wp2_with fail
  go_ret
  exact ⟨rfl, heap_below H1.out (below_alloc _ _), K1.out.trans (KB.of (below_alloc _ _))⟩
theorem rnumber_some (s : ByteArray) (G z n k : Nat) (w : World) (h : GS w G z) (hz : z ≤ s.size) (hs : s.size ≤ maxLen) (ht : tk ((nbs s).drop z) = some (n, k)) :
    Calls Try.prog 29 #[.string s, .pointer (some ⟨G, 0, none⟩)] w fun r w' => r = .returned (.int .i64 (n : Int)) ∧ GS w' G (z + k) ∧ KB G w w' := by
  have c5 := cell_of h 5
  simp at c5
  unfold maxLen at hs
  have hk := tk_le' ht
  rw [List.length_drop, nbs_length] at hk
  have H := hide h
  have HT : Hid (tk (nbs (s.extract z s.size)) = some (n, k)) := by show _ = _; rw [nsfx rfl]; exact ht
  clear h ht
  go_enter Try.func29, Try.ntmps29
  go_wp2_with fail
  refine (rtake_some _ n k HT.out _).mono ?_
  rintro r w1 ⟨rfl, b1⟩
  have H1 := hide (heap_below H.out b1)
  have K1 := hide (KB.of (R := G) b1)
  have d5 := cell_of H1.out 5
  have e5 := frozen_of H1.out 5
  have glt := heap_lt H1.out
  simp at d5
  clear b1
  go_wp2_with fail
  go_region
  all_goals
    go_wp2_with fail
    go_ret
    have hg : GS (w1.setCell ⟨G, 5, none⟩ (.int .i64 ((z : Int) + (k : Int)))) G (z + k) := by
      unfold GS
      rw [Ba.heap_setCell_same H1.out, show ((z + k : Nat) : Int) = (z : Int) + (k : Int) by omega]
      rfl
    exact ⟨rfl, heap_below hg (btr (below_alloc _ _) (bdrew1 _)), (K1.out.setCell 5 _).trans (KB.of (btr (below_alloc _ _) (bdrew1 _)))⟩

/-- what the reference's Decode keeps: the answer's room at Z, what is read at G, the operation at O -/
structure DS (w wr : World) (Z G O : Nat) (k a b : Int) (sl : Value) (d : Bool) (z : Nat) : Prop where
  gs : GS wr G z
  op : wr.heap[O]? = some (.cells #[.int .i64 k, .int .i64 a, .int .i64 b, sl, .bool d] 24 (0, 0))
  res : wr.heap[Z]? = some (.cells #[.int .i64 0, .int .i64 0, .int .i64 0, .slice none 0 0, .bool false, .int .i64 0] 29 (0, 0))
  bel : Below w.heap.size w wr
  ne : w.heap.size ≤ Z ∧ Z < G ∧ G < O
theorem DS.below {w wr wr' : World} {Z G O : Nat} {k a b : Int} {sl : Value} {d : Bool} {z : Nat} (h : DS w wr Z G O k a b sl d z) (hb : Below wr.heap.size wr wr') : DS w wr' Z G O k a b sl d z :=
  ⟨heap_below h.gs hb, heap_below h.op hb, heap_below h.res hb, btr h.bel hb, h.ne⟩
theorem DS.reads {w wr wr' : World} {Z G O : Nat} {k a b : Int} {sl : Value} {d : Bool} {z z' : Nat} (h : DS w wr Z G O k a b sl d z) (hg : GS wr' G z') (hk : KB G wr wr') : DS w wr' Z G O k a b sl d z' :=
  ⟨hg, hk.heap h.op (by have := h.ne; omega), hk.heap h.res (by have := h.ne; omega), KB.below h.bel hk (by have := h.ne; omega), h.ne⟩
theorem DS.set {w wr : World} {Z G O : Nat} {k a b : Int} {sl : Value} {d : Bool} {z : Nat} (h : DS w wr Z G O k a b sl d z) (i : Nat) (v : Value) {a' b' : Int} {sl' : Value} {d' : Bool} (he : (#[Value.int .i64 k, .int .i64 a, .int .i64 b, sl, .bool d] : Array Value).setIfInBounds i v = #[Value.int .i64 k, .int .i64 a', .int .i64 b', sl', .bool d']) : DS w (wr.setCell ⟨O, i, none⟩ v) Z G O k a' b' sl' d' z := by
  have hn := h.ne
  refine ⟨?_, ?_, ?_, h.bel.setCell (by show w.heap.size ≤ O; omega) _, hn⟩
  · exact (Below.heap_setCell _ _ _ _ (by show G ≠ O; omega)).trans h.gs
  · rw [Ba.heap_setCell_same h.op, he]
  · exact (Below.heap_setCell _ _ _ _ (by show Z ≠ O; omega)).trans h.res
theorem DS.start {w w1 : World} {z : Nat} (k : Int) (g : GS w1 (w.heap.size + 1) z) (kb : KB (w.heap.size + 1) ((w.alloc (.cells #[.int .i64 0, .int .i64 0, .int .i64 0, .slice none 0 0, .bool false, .int .i64 0] 29)).alloc (.cells #[.int .i64 0, .int .i64 0, .int .i64 0, .slice none 0 0, .bool false, .int .i64 0] 29)) w1) : DS w (w1.alloc (.cells #[.int .i64 k, .int .i64 0, .int .i64 0, .slice none 0 0, .bool false] 24)) w.heap.size (w.heap.size + 1) w1.heap.size k 0 0 (.slice none 0 0) false z := by
  have r0 := heap_below (heap_new w (.cells #[.int .i64 0, .int .i64 0, .int .i64 0, .slice none 0 0, .bool false, .int .i64 0] 29)) (below_alloc (w.alloc (.cells #[.int .i64 0, .int .i64 0, .int .i64 0, .slice none 0 0, .bool false, .int .i64 0] 29)) (.cells #[.int .i64 0, .int .i64 0, .int .i64 0, .slice none 0 0, .bool false, .int .i64 0] 29))
  have b0 := btr (below_alloc w (.cells #[.int .i64 0, .int .i64 0, .int .i64 0, .slice none 0 0, .bool false, .int .i64 0] 29)) (below_alloc (w.alloc (.cells #[.int .i64 0, .int .i64 0, .int .i64 0, .slice none 0 0, .bool false, .int .i64 0] 29)) (.cells #[.int .i64 0, .int .i64 0, .int .i64 0, .slice none 0 0, .bool false, .int .i64 0] 29))
  have hz := kb.size
  simp at hz
  exact ⟨heap_below g (below_alloc _ _), heap_new _ _, heap_below (kb.heap r0 (by omega)) (below_alloc _ _), btr (KB.below b0 kb (by omega)) (below_alloc _ _), Nat.le_refl _, by omega, by omega⟩

end De
end Go.Proofs.Ytabbmfaklekojaa
