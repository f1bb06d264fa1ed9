/- A channel inside a law's frame; the laws' own hands(), over this seat's program. -/
import Derived.Test.YtapabnakbaoijaaXg
import Derived.Test.YtapabnakbaoijaaXi
import Derived.Test.YtapabnakbaoijaaXj
namespace Go.Proofs.Ytapabnakbaoijaa
open Go.ChangeShapes Go.WideShapes Go.ChangeAt Go.RowKit
namespace Pi
open Ba Pe

theorem Nw.not {F' F : Nat → Prop} {w : World} {x : Nat} (h : Nw F' F w) (hx : ¬ F x) (hl : x < w.heap.size) : ¬ F' x := by
  intro e
  rcases h x e with q | q
  · exact hx q
  · omega
/-- a channel that is newer than w0 -/
structure LP (w0 wr : World) (B : Nat) (F : Nat → Prop) (st : St) : Prop where
  p : Pp wr B F st
  b : Below w0.heap.size w0 wr
  lo : ∀ k, F k → w0.heap.size ≤ k
theorem LP.below {w0 a c : World} {B : Nat} {F : Nat → Prop} {st : St} (h : LP w0 a B F st) (hb : Below a.heap.size a c) : LP w0 c B F st := ⟨h.p.below hb, btr h.b hb, h.lo⟩
theorem LP.step {w0 a c : World} {B : Nat} {F F' : Nat → Prop} {st st' : St} (h : LP w0 a B F st) (k : KF F a c) (i : Nw F' F a) (p : Pp c B F' st') : LP w0 c B F' st' :=
  ⟨p, k.below h.b h.lo, fun x hx => by
    rcases i x hx with q | q
    · exact h.lo x q
    · exact Nat.le_trans h.b.size q⟩
theorem LP.other {w0 a c : World} {B : Nat} {F G : Nat → Prop} {st : St} (h : LP w0 a B F st) (k : KF G a c) (hd : ∀ x, F x → ¬ G x) (hl : ∀ x, G x → w0.heap.size ≤ x) : LP w0 c B F st := ⟨h.p.kf k hd, k.below h.b hl, h.lo⟩
theorem send_is (B : Nat) (F : Nat → Prop) (st st' : St) (x e : Int) (g : Gt) (w : World) (h : Pp w B F st) (hs : st.sent < 1000000000) (hg : st.got < 1000000000) (h1 : sendG st = g) (h2 : sendE st = e) (h3 : sendS st x = st') :
    Calls Try.prog 20 #[.pointer (some ⟨B, 0, none⟩), .int .i64 x] w fun r w' => r = .returned (.tuple #[gv g, .int .i64 e]) ∧ KF F w w' ∧ ∃ F', Nw F' F w ∧ Pp w' B F' st' := by
  subst h1 h2 h3
  exact send_any B F st x w h hs hg
theorem recv_is (B : Nat) (F : Nat → Prop) (st st' : St) (g : Gt) (w : World) (h : Pp w B F st) (hs : st.sent < 1000000000) (hg : st.got < 1000000000) (h1 : recvG st = g) (h3 : recvS st = st') :
    Calls Try.prog 21 #[.pointer (some ⟨B, 0, none⟩)] w fun r w' => r = .returned (gv g) ∧ KF F w w' ∧ ∃ F', Nw F' F w ∧ Pp w' B F' st' := by
  subst h1 h3
  exact recv_any B F st w h hs hg
theorem wait_is (B : Nat) (F : Nat → Prop) (st st' : St) (b : Bool) (x : Wt) (e : Int) (w : World) (h : Pp w B F st) (h1 : waitE st b x = e) (h3 : waitS st b x = st') :
    Calls Try.prog 22 #[.pointer (some ⟨B, 0, none⟩), .bool b, wv x] w fun r w' => r = .returned (.int .i64 e) ∧ KF F w w' ∧ ∃ F', Nw F' F w ∧ Pp w' B F' st' := by
  subst h1 h3
  exact wait_any B F st b x w h
/-- a Got that a law has laid by -/
def gcells (g : Gt) : Obj := .cells #[.bool g.rd, .bool g.ok, .bool g.wk, .int .i64 g.v, .int .i64 g.m.g, .int .i64 g.m.c, .int .i64 g.m.v] 49
set_option maxRecDepth 100000 in
set_option maxHeartbeats 6400000 in
theorem hands_any (w : World) :
    Calls Try.prog 10 #[] w fun r w' => r = .returned (.bool true) ∧ Below w.heap.size w w' := by
  go_enter Try.func10, Try.ntmps10
  go_wp2_with fail
  refine (new_ok 1 _ (by decide)).mono ?_
  rintro r w1 ⟨B, F1, rfl, p1, l1, b1⟩
  have L1 : Hid (LP w w1 B F1 (st0 1)) := ⟨p1, b1, l1⟩
  clear p1 l1 b1
  go_wp2_with fail
  refine (send_is B F1 _ ⟨1, [5], [], [], 1, 0, false⟩ 5 0 ⟨true, false, false, 0, ⟨0, 0, 0⟩⟩ _ L1.out.p (by decide) (by decide) rfl rfl rfl).mono ?_
  rintro r w2 ⟨rfl, k2, F2, n2, p2⟩
  have L2 := hide ((L1.out.step k2 n2 p2).below (below_alloc w2 (gcells ⟨true, false, false, 0, ⟨0, 0, 0⟩⟩)))
  have X2 := hide (heap_new w2 (gcells ⟨true, false, false, 0, ⟨0, 0, 0⟩⟩))
  have NX2 : Hid (¬ F2 w2.heap.size) := fun e => Nat.lt_irrefl _ (p2.bd _ e)
  have hs2 : w2.heap.size < (w2.alloc (gcells ⟨true, false, false, 0, ⟨0, 0, 0⟩⟩)).heap.size := heap_lt X2.out
  clear k2 n2 p2 L1
  unfold gcells at L2 X2 hs2
  unfold gv
  simp only at L2 X2 hs2
  go_wp2_with fail
  generalize w2.alloc (.cells #[.bool true, .bool false, .bool false, .int .i64 0, .int .i64 0, .int .i64 0, .int .i64 0] 49) = W2 at L2 X2 hs2 ⊢
  generalize w2.heap.size = A at X2 NX2 hs2 ⊢
  refine (send_is B F2 _ ⟨1, [5], [], [], 1, 0, false⟩ 6 0 gz _ L2.out.p (by decide) (by decide) rfl rfl rfl).mono ?_
  rintro r w3 ⟨rfl, k3, F3, n3, p3⟩
  have L3 := hide ((L2.out.step k3 n3 p3).below (below_alloc w3 (gcells gz)))
  have X3 := hide (heap_below (k3.heap X2.out NX2.out) (below_alloc w3 (gcells gz)))
  have NX3 := hide (Nw.not n3 NX2.out hs2)
  have Y3 := hide (heap_new w3 (gcells gz))
  have NY3 : Hid (¬ F3 w3.heap.size) := fun e => Nat.lt_irrefl _ (p3.bd _ e)
  have hA3 := heap_lt X3.out
  have hB3 := heap_lt Y3.out
  clear k3 n3 p3 L2 X2 NX2 hs2
  unfold gcells gz at L3 X3 Y3 hA3 hB3
  unfold gv gz
  simp only at L3 X3 Y3 hA3 hB3
  go_wp2_with fail
  generalize w3.alloc (.cells #[.bool false, .bool false, .bool false, .int .i64 0, .int .i64 0, .int .i64 0, .int .i64 0] 49) = W3 at L3 X3 Y3 hA3 hB3 ⊢
  generalize w3.heap.size = C at Y3 NY3 hB3 ⊢
  refine (wait_is B F3 _ ⟨1, [5], [⟨1, -1, 6⟩], [], 1, 0, false⟩ true ⟨1, -1, 6⟩ 0 _ L3.out.p rfl rfl).mono ?_
  rintro r w4 ⟨rfl, k4, F4, n4, p4⟩
  have L4 := hide (L3.out.step k4 n4 p4)
  have X4 := hide (k4.heap X3.out NX3.out)
  have NX4 := hide (Nw.not n4 NX3.out hA3)
  have Y4 := hide (k4.heap Y3.out NY3.out)
  have NY4 := hide (Nw.not n4 NY3.out hB3)
  have hA4 := heap_lt X4.out
  have hB4 := heap_lt Y4.out
  clear k4 n4 p4 L3 X3 Y3 NX3 NY3 hA3 hB3
  go_wp2_with fail
  refine (recv_is B F4 _ ⟨1, [6], [], [], 2, 1, false⟩ ⟨true, true, true, 5, ⟨1, -1, 6⟩⟩ _ L4.out.p (by decide) (by decide) rfl rfl).mono ?_
  rintro r w5 ⟨rfl, k5, F5, n5, p5⟩
  have L5 := hide ((L4.out.step k5 n5 p5).below (below_alloc w5 (gcells ⟨true, true, true, 5, ⟨1, -1, 6⟩⟩)))
  have X5 := hide (heap_below (k5.heap X4.out NX4.out) (below_alloc w5 (gcells ⟨true, true, true, 5, ⟨1, -1, 6⟩⟩)))
  have NX5 := hide (Nw.not n5 NX4.out hA4)
  have Y5 := hide (heap_below (k5.heap Y4.out NY4.out) (below_alloc w5 (gcells ⟨true, true, true, 5, ⟨1, -1, 6⟩⟩)))
  have NY5 := hide (Nw.not n5 NY4.out hB4)
  have Z5 := hide (heap_new w5 (gcells ⟨true, true, true, 5, ⟨1, -1, 6⟩⟩))
  have NZ5 : Hid (¬ F5 w5.heap.size) := fun e => Nat.lt_irrefl _ (p5.bd _ e)
  clear k5 n5 p5 L4 X4 Y4 NX4 NY4 hA4 hB4
  unfold gcells at L5 X5 Y5 Z5
  unfold gv
  simp only at L5 X5 Y5 Z5
  go_wp2_with fail
  generalize w5.alloc (.cells #[.bool true, .bool true, .bool true, .int .i64 5, .int .i64 1, .int .i64 (-1), .int .i64 6] 49) = W5 at L5 X5 Y5 Z5 ⊢
  generalize w5.heap.size = D at Z5 NZ5 ⊢
  refine (recv_is B F5 _ ⟨1, [], [], [], 2, 2, false⟩ ⟨true, true, false, 6, ⟨0, 0, 0⟩⟩ _ L5.out.p (by decide) (by decide) rfl rfl).mono ?_
  rintro r w6 ⟨rfl, k6, F6, n6, p6⟩
  have L6 := hide (L5.out.step k6 n6 p6)
  have X6 := k6.heap X5.out NX5.out
  have Y6 := k6.heap Y5.out NY5.out
  have Z6 := k6.heap Z5.out NZ5.out
  have hA6 := heap_lt X6
  have hB6 := heap_lt Y6
  have hD6 := heap_lt Z6
  have a0 : w6.cell? ⟨A, 0, none⟩ = some (.bool true) := cell_of X6 0
  have c0 : w6.cell? ⟨C, 0, none⟩ = some (.bool false) := cell_of Y6 0
  have d2 : w6.cell? ⟨D, 2, none⟩ = some (.bool true) := cell_of Z6 2
  have d3 : w6.cell? ⟨D, 3, none⟩ = some (.int .i64 5) := cell_of Z6 3
  have d4 : w6.cell? ⟨D, 4, none⟩ = some (.int .i64 1) := cell_of Z6 4
  clear k6 n6 p6 L5 X5 Y5 Z5 NX5 NY5 NZ5 X6 Y6 Z6
  unfold gv
  go_wp2_with fail
  go_ret
  exact ⟨rfl, btr L6.out.b (below_alloc _ _)⟩
end Pi
end Go.Proofs.Ytapabnakbaoijaa
