/- Package deed: the reader's number, upTo, bit, over this seat's program. -/
import Derived.Test.YtgnhophlnbpcgaaDd
namespace Go.Proofs.Ytgnhophlnbpcgaa
open Go.ChangeShapes Go.WideShapes Go.ChangeAt Go.RowKit
namespace De
open Ba Re

/-- from w to w' at most block R has changed, of those that were there -/
structure KB (R : Nat) (w w' : World) : Prop where
  os : w'.os = w.os
  tape : w'.tape = w.tape
  output : w'.output = w.output
  size : w.heap.size ≤ w'.heap.size
  block : ∀ k, k < w.heap.size → k ≠ R → w'.heap[k]? = w.heap[k]?
theorem KB.refl (R : Nat) (w : World) : KB R w w := ⟨rfl, rfl, rfl, Nat.le_refl _, fun _ _ _ => rfl⟩
theorem KB.trans {R : Nat} {a b c : World} (h : KB R a b) (k : KB R b c) : KB R a c :=
  ⟨k.os.trans h.os, k.tape.trans h.tape, k.output.trans h.output, Nat.le_trans h.size k.size, fun x hx hr => (k.block x (Nat.lt_of_lt_of_le hx h.size) hr).trans (h.block x hx hr)⟩
theorem KB.of {R : Nat} {a b : World} (h : Below a.heap.size a b) : KB R a b := ⟨h.os, h.tape, h.output, h.size, fun x hx _ => h.block x hx⟩
theorem KB.setCell {R : Nat} {a b : World} (h : KB R a b) (i : Nat) (v : Value) : KB R a (b.setCell ⟨R, i, none⟩ v) :=
  ⟨h.os, h.tape, h.output, by show _ ≤ (b.setCell _ _).heap.size; simp [World.setCell]; exact h.size, fun x hx hr => (Below.heap_setCell _ _ _ _ hr).trans (h.block x hx hr)⟩
theorem KB.below {R : Nat} {w a b : World} (h : Below w.heap.size w a) (k : KB R a b) (hR : w.heap.size ≤ R) : Below w.heap.size w b :=
  ⟨k.os.trans h.os, k.tape.trans h.tape, k.output.trans h.output, Nat.le_trans h.size k.size, fun x hx => (k.block x (Nat.lt_of_lt_of_le hx h.size) (by omega)).trans (h.block x hx)⟩
theorem KB.heap {R b : Nat} {w w' : World} {o : Obj} (k : KB R w w') (h : w.heap[b]? = some o) (hb : b ≠ R) : w'.heap[b]? = some o :=
  (k.block b (heap_lt h) hb).trans h

/-- a reader's state -/
def RS (w : World) (R : Nat) (s : ByteArray) (f : Bool) : Prop := w.heap[R]? = some (.cells #[.string s, .bool f] 61 (0, 0))
/-- one number read -/
def rnum (s : ByteArray) (f : Bool) : Int × ByteArray × Bool :=
  bif f then (0, s, true) else match tk (nbs s) with
    | none => (0, bs [], true)
    | some (n, k) => ((n : Int), s.extract k s.size, false)
theorem rnum_t (s : ByteArray) : rnum s true = (0, s, true) := rfl
theorem rnum_n {s : ByteArray} (h : tk (nbs s) = none) : rnum s false = (0, bs [], true) := by simp [rnum, h]
theorem rnum_s {s : ByteArray} {n k : Nat} (h : tk (nbs s) = some (n, k)) : rnum s false = ((n : Int), s.extract k s.size, false) := by simp [rnum, h]

theorem number_any (R : Nat) (s : ByteArray) (f : Bool) (w : World) (h : RS w R s f) :
    Calls Try.prog 57 #[.pointer (some ⟨R, 0, none⟩)] w fun r w' => r = .returned (.int .i64 (rnum s f).1) ∧ RS w' R (rnum s f).2.1 (rnum s f).2.2 ∧ KB R w w' := by
  have c0 := cell_of h 0
  have c1 := cell_of h 1
  simp at c0 c1
  have H := hide h
  clear h
  cases f
  · cases ht : tk (nbs s) with
    | none =>
      rw [rnum_n ht]
      have HT := hide ht
      clear ht
      go_enter Try.func57, Try.ntmps57
      go_wp2_with fail
      refine (take_none s HT.out _).mono ?_
      rintro r w1 ⟨rfl, b1⟩
      have H1 := hide (heap_below H.out b1)
      have K1 := hide (KB.of (R := R) b1)
      have q0 := cell_of H1.out 0
      have q1 := cell_of H1.out 1
      have f0 := frozen_of H1.out 0
      have f1 := frozen_of H1.out 1
      simp at q0 q1
      clear b1
      go_wp2_with fail
      go_ret
      exact ⟨rfl, two_set H1.out _ _, (K1.out.setCell 0 _).setCell 1 _⟩
    | some p =>
      obtain ⟨n, k⟩ := p
      rw [rnum_s ht]
      have HT := hide ht
      clear ht
      go_enter Try.func57, Try.ntmps57
      go_wp2_with fail
      refine (take_some s n k HT.out _).mono ?_
      rintro r w1 ⟨rfl, b1⟩
      have H1 := hide (heap_below H.out b1)
      have K1 := hide (KB.of (R := R) b1)
      have q0 := cell_of H1.out 0
      have q1 := cell_of H1.out 1
      have f0 := frozen_of H1.out 0
      have f1 := frozen_of H1.out 1
      simp at q0 q1
      clear b1
      go_wp2_with fail
      go_ret
      exact ⟨rfl, two_set H1.out _ _, (K1.out.setCell 0 _).setCell 1 _⟩
  · rw [rnum_t]
    go_enter Try.func57, Try.ntmps57
    go_wp2_with fail
    go_ret
    exact ⟨rfl, H.out, KB.refl _ _⟩

/-- a number read that is at most so great -/
def rup (m : Int) (s : ByteArray) (f : Bool) : Int × ByteArray × Bool :=
  bif decide (m < (rnum s f).1) then (0, (rnum s f).2.1, true) else rnum s f
theorem upTo_reads (R : Nat) (m : Int) (s : ByteArray) (f : Bool) (w : World) (h : RS w R s f) :
    Calls Try.prog 60 #[.pointer (some ⟨R, 0, none⟩), .int .i64 m] w fun r w' => r = .returned (.int .i64 (rup m s f).1) ∧ RS w' R (rup m s f).2.1 (rup m s f).2.2 ∧ KB R w w' := by
  have NA := hide (number_any R s f w h)
  clear h
  unfold rup
  generalize rnum s f = p at NA ⊢
  obtain ⟨n, s', f'⟩ := p
  cases hd : decide (m < n)
  · have HD := hide hd
    simp only [cond_false]
    go_enter Try.func60, Try.ntmps60
    go_wp2_with fail
    refine NA.out.mono ?_
    rintro r w1 ⟨rfl, h1, k1⟩
    have H1 := hide h1
    have K1 := hide k1
    clear h1 k1
    go_wp2_with fail
    go_ret
    exact ⟨rfl, H1.out, K1.out⟩
  · have HD := hide hd
    simp only [cond_true]
    go_enter Try.func60, Try.ntmps60
    go_wp2_with fail
    refine NA.out.mono ?_
    rintro r w1 ⟨rfl, h1, k1⟩
    have q1 := cell_of h1 1
    have f1 := frozen_of h1 1
    simp at q1
    have H1 := hide h1
    have K1 := hide k1
    clear h1 k1
    go_wp2_with fail
    go_ret
    refine ⟨rfl, ?_, K1.out.setCell 1 _⟩
    have := Ba.heap_setCell_same H1.out (i := 1) (.bool true)
    exact this
theorem bit_reads (R : Nat) (s : ByteArray) (f : Bool) (w : World) (h : RS w R s f) :
    Calls Try.prog 59 #[.pointer (some ⟨R, 0, none⟩)] w fun r w' => r = .returned (.bool ((rup 1 s f).1 == 1)) ∧ RS w' R (rup 1 s f).2.1 (rup 1 s f).2.2 ∧ KB R w w' := by
  have NA := hide (upTo_reads R 1 s f w h)
  clear h
  generalize rup 1 s f = p at NA ⊢
  obtain ⟨n, s', f'⟩ := p
  go_enter Try.func59, Try.ntmps59
  go_wp2_with fail
  refine NA.out.mono ?_
  rintro r w1 ⟨rfl, h1, k1⟩
  have H1 := hide h1
  have K1 := hide k1
  clear h1 k1
  go_wp2_with fail
  go_ret
  exact ⟨rfl, H1.out, K1.out⟩

end De
end Go.Proofs.Ytgnhophlnbpcgaa
