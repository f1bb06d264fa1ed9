/- Package cell, over this seat's program: Write, New, Last, Tailed, Wide, and a nil cell. -/
import Derived.Test.YtekdcfdjohlfcaaAg
import Derived.Laws.EntriesVeiled
namespace Go.Proofs.Ytekdcfdjohlfcaa
open Go.ChangeShapes Go.WideShapes Go.ChangeAt Go.RowKit
namespace Ce
open Ck
open Ba (KF Bd Nw hide)
open Ep (tidOf clkOf ownB)

theorem ag1_any (own : Int) (A B C b : Nat) (l : List Int) (o : Int) (a0 : 0 ≤ o) (a1 : o ≤ 18446744073709551615) (w : World) (hC : w.cell? ⟨C, 0, none⟩ = some (knF A B)) (hB : w.cell? ⟨B, 0, none⟩ = some (.int .i64 own)) (hA : w.cell? ⟨A, 0, none⟩ = some (.pointer (some ⟨b, 0, none⟩))) (hc : CK w b l) :
    Calls Try.prog 92 #[.int .u64 o, .pointer (some ⟨C, 0, none⟩)] w fun r w' => r = .returned (.bool (!kn own l o)) ∧ w' = w := by
  have K := hide (kn_any own A B b l o a0 a1 w hB hA hc)
  have en := enter_kn
  unfold knF at hC
  clear hB hA hc
  generalize kn own l o = z at *
  go_enter Try.func92, Try.ntmps92
  go_wp2_with fail
  refine K.out.mono ?_
  rintro r w1 ⟨rfl, e1⟩
  obtain rfl := e1.symm
  go_wp2_with fail
  go_ret
  exact ⟨rfl, rfl⟩
theorem enter_ag : ∀ (a : Array Value) (u : World), (callFunc 92 a).run Try.prog u = .ok (.enter 92 a) u := fun _ _ => by rfl

/-- a write -/
def wrR (st : Cst) (e : Int) (l : List Int) : Int := if kn (tidOf e) l st.last = false then 1 else if (st.tl || st.rd.any fun x => !kn (tidOf e) l x) = true then 2 else 0
def wrS (e : Int) : Cst := ⟨e, [], false⟩

set_option maxRecDepth 100000 in
set_option maxHeartbeats 3200000 in
theorem against_any {Y : Nat → Prop} {X : Nat} {w : World} {st : Cst} (h : CW Y X w st) (e : Int) (b : Nat) (l : List Int) (hc : CL Y w b l) (A B : Nat) (hB : w.heap[B]? = some (.cells #[.int .i64 (tidOf e)] 3 (0, 0))) (hA : w.heap[A]? = some (.cells #[.pointer (some ⟨b, 0, none⟩)] 34 (0, 0))) :
    Calls Try.prog 79 #[.pointer (some ⟨X, 0, none⟩), knF A B] w fun r w' => r = .returned (.int .i64 (wrR st e l)) ∧ Below w.heap.size w w' := by
  obtain ⟨v, h⟩ := h
  obtain ⟨w1, hw1⟩ : ∃ w1, w1 = w.alloc (.cells #[knF A B] 145) := ⟨_, rfl⟩
  have b1 : Below w.heap.size w w1 := by rw [hw1]; exact Ba.below_alloc _ _
  have C1 := h.kept b1
  have hC : w1.cell? ⟨w.heap.size, 0, none⟩ = some (knF A B) := by rw [hw1, cell_of (heap_new _ _)]; rfl
  have hB1 : w1.cell? ⟨B, 0, none⟩ = some (.int .i64 (tidOf e)) := by rw [cell_of ((b1.block B (Array.getElem?_eq_some_iff.1 hB).1).trans hB)]; rfl
  have hA1 : w1.cell? ⟨A, 0, none⟩ = some (.pointer (some ⟨b, 0, none⟩)) := by rw [cell_of ((b1.block A (Array.getElem?_eq_some_iff.1 hA).1).trans hA)]; rfl
  have ck := hc w1 (KY.of b1 h.yl)
  have AA := fun o h0 h1 => ag1_any (tidOf e) A B w.heap.size b l o h0 h1 w1 hC hB1 hA1 ck
  have A1 := hide (AA st.last h.gd.last.1 h.gd.last.2)
  have CF := hide (contains_any 92 #[.pointer (some ⟨w.heap.size, 0, none⟩)] enter_ag (fun x => !kn (tidOf e) l x) v st.rd w1 C1.own (fun k _ => AA _ (h.gd.u.nth k).1 (h.gd.u.nth k).2))
  obtain ⟨oa, c, rfl⟩ := own_sl C1.own
  have x0 := cell_of C1.head 0
  have x1 := cell_of C1.head 1
  have x2 := cell_of C1.head 2
  simp at x0 x1 x2
  have B1 := hide b1
  have en := enter_ag
  clear C1 h AA ck hA1 hB1 hC hA hB hc b1
  unfold wrR
  generalize (st.rd.any fun x => !kn (tidOf e) l x) = q2 at *
  generalize kn (tidOf e) l st.last = q1 at *
  generalize st.tl = q3 at *
  unfold knF at hw1 ⊢
  have hw2 := hw1.symm
  clear hw1
  cases q1
  · go_enter Try.func79, Try.ntmps79
    go_wp2_with fail
    refine A1.out.mono ?_
    rintro r w0 ⟨rfl, e0⟩
    obtain rfl := e0.symm
    go_wp2_with fail
    go_ret
    exact ⟨rfl, B1.out⟩
  · cases q3
    · cases q2
      all_goals
        go_enter Try.func79, Try.ntmps79
        go_wp2_with fail
        refine A1.out.mono ?_
        rintro r w0 ⟨rfl, e0⟩
        obtain rfl := e0.symm
        go_wp2_with fail
        refine CF.out.mono ?_
        rintro r w0 ⟨rfl, e0⟩
        obtain rfl := e0.symm
        go_wp2_with fail
        go_ret
        exact ⟨rfl, B1.out⟩
    · go_enter Try.func79, Try.ntmps79
      go_wp2_with fail
      refine A1.out.mono ?_
      rintro r w0 ⟨rfl, e0⟩
      obtain rfl := e0.symm
      go_wp2_with fail
      go_ret
      exact ⟨rfl, B1.out⟩

set_option maxRecDepth 100000 in
set_option maxHeartbeats 3200000 in
theorem write_ok {Y : Nat → Prop} {X : Nat} {w : World} {st : Cst} (h : CW Y X w st) (e : Int) (ho : ownB e = true) (b : Nat) (l : List Int) (hc : CL Y w b l) :
    Calls Try.prog 65 #[.pointer (some ⟨X, 0, none⟩), .int .u64 e, .pointer (some ⟨b, 0, none⟩)] w fun r w' => r = .returned (.tuple #[.int .i64 (wrR st e l), .int .i64 0]) ∧ CW Y X w' (wrS e) ∧ KY Y w w' := by
  have a0 := (own_u ho).1
  have a1 := (own_u ho).2
  have T := hide (takes_any e a0 a1 (some ⟨X, 0, none⟩) w)
  rw [ho] at T
  simp at T
  have KA := hide (know_any e a0 a1 b w)
  obtain ⟨w1, hw1⟩ : ∃ w1, w1 = (w.alloc (.cells #[.pointer (some ⟨b, 0, none⟩)] 34)).alloc (.cells #[.int .i64 (tidOf e)] 3) := ⟨_, rfl⟩
  rw [← hw1] at KA
  have b1 : Below w.heap.size w w1 := by rw [hw1]; exact btr (Ba.below_alloc _ _) (Ba.below_alloc _ _)
  have hA : w1.heap[w.heap.size]? = some (.cells #[.pointer (some ⟨b, 0, none⟩)] 34 (0, 0)) := by
    rw [hw1, Below.heap_alloc _ _ _ (by rw [World.size_alloc]; omega)]; exact heap_new _ _
  have hB : w1.heap[w.heap.size + 1]? = some (.cells #[.int .i64 (tidOf e)] 3 (0, 0)) := by
    rw [hw1]
    have := heap_new (w.alloc (.cells #[.pointer (some ⟨b, 0, none⟩)] 34)) (.cells #[.int .i64 (tidOf e)] 3)
    rwa [World.size_alloc] at this
  have k1 : KY Y w w1 := KY.of b1 h.yl
  have AG := hide (against_any (h.kept b1) e b l (hc.keep k1) w.heap.size (w.heap.size + 1) hB hA)
  have HH := hide h
  have HB := hide b1
  generalize wrR st e l = R at *
  unfold knF at KA AG
  clear h hw1 hA hB k1 hc b1
  generalize hF : w.heap.size = A at *
  go_enter Try.func65, Try.ntmps65
  go_wp2_with fail
  refine T.out.mono ?_
  rintro r w0 ⟨rfl, e0⟩
  obtain rfl := e0.symm
  go_wp2_with fail
  refine KA.out.mono ?_
  rintro r w0 ⟨rfl, e0⟩
  obtain rfl := e0.symm
  go_wp2_with fail
  refine AG.out.mono ?_
  rintro r w2 ⟨rfl, b2⟩
  have B2 := hide b2
  obtain ⟨v, h⟩ := HH.out
  have B12 : Below w.heap.size w w2 := btr (by rw [hF]; exact HB.out) b2
  have h2 := h.kept B12
  have KK : Hid (KY Y w w2) := KY.of B12 h.yl
  have hd := h2.head
  have x0 := cell_of hd 0
  have x1 := cell_of hd 1
  have x2 := cell_of hd 2
  simp at x0 x1 x2
  have f0 : w2.frozen? ⟨X, 0, none⟩ = false := Ba.frozen_of hd 0
  have f1 : w2.frozen? ⟨X, 1, none⟩ = false := Ba.frozen_of hd 1
  have f2 : w2.frozen? ⟨X, 2, none⟩ = false := Ba.frozen_of hd 2
  have FIN : Hid (CW Y X (((w2.setCell ⟨X, 0, none⟩ (.int .u64 e)).setCell ⟨X, 1, none⟩ (.slice none 0 0)).setCell ⟨X, 2, none⟩ (.bool false)) (wrS e) ∧ KY Y w (((w2.setCell ⟨X, 0, none⟩ (.int .u64 e)).setCell ⟨X, 1, none⟩ (.slice none 0 0)).setCell ⟨X, 2, none⟩ (.bool false))) := by
    refine ⟨⟨.slice none 0 0, ?_, World.ownsRow_nil _ _ _ _, by simp [Value.ownBlock], h2.yx, by simp [Value.ownBlock], ?_, ⟨.inr (.inr ho), by simp [wrS], srt_nil⟩⟩, ?_⟩
    · have q1 := Ba.heap_setCell_same (i := 0) hd (.int .u64 e)
      have q2 := Ba.heap_setCell_same (i := 1) q1 (.slice none 0 0)
      have q3 := Ba.heap_setCell_same (i := 2) q2 (.bool false)
      simpa [wrS] using q3
    · intro k hk
      have := h2.yl k hk
      simpa [World.setCell] using this
    · exact ((KK.out.trans (KY.set _ h2.yx _ _)).trans (KY.set _ h2.yx _ _)).trans (KY.set _ h2.yx _ _)
  clear h h2 hd HH B12 B2 b2 HB AG KA T KK
  go_wp2_with fail
  go_ret2
  exact ⟨rfl, FIN.out⟩

theorem new_any (w : World) : Calls Try.prog 49 #[] w fun r w' => r = .returned (.pointer (some ⟨w.heap.size, 0, none⟩)) ∧ CW (Lw w) w.heap.size w' ⟨0, [], false⟩ ∧ Below w.heap.size w w' := by
  have FIN : Hid (CW (Lw w) w.heap.size (w.alloc (.cells #[.int .u64 0, .slice none 0 0, .bool false] 134)) ⟨0, [], false⟩ ∧ Below w.heap.size w (w.alloc (.cells #[.int .u64 0, .slice none 0 0, .bool false] 134))) := by
    refine ⟨⟨.slice none 0 0, heap_new _ _, World.ownsRow_nil _ _ _ _, by simp [Value.ownBlock], Nat.lt_irrefl _, by simp [Value.ownBlock], fun k hk => ?_, ⟨.inl rfl, by simp, srt_nil⟩⟩, Ba.below_alloc _ _⟩
    rw [World.size_alloc]
    exact Nat.lt_succ_of_lt hk
  go_enter Try.func49, Try.ntmps49
  go_wp2_with fail
  go_ret
  exact ⟨rfl, FIN.out⟩
theorem reads_nil (w : World) : Calls Try.prog 29 #[.pointer none] w fun r w' => r = .returned (.slice none 0 0) ∧ w' = w := by
  go_enter Try.func29, Try.ntmps29
  go_wp2_with fail
  go_ret
  exact ⟨rfl, rfl⟩
/-- an access that is none, or of a nil cell -/
def accE (e : Int) : Int := if ownB e = false then 1 else 7
theorem read_no (e : Int) (a0 : 0 ≤ e) (a1 : e ≤ 18446744073709551615) (p : Option Addr) (q : Value) (w : World) (hp : ownB e = false ∨ p = none) : Calls Try.prog 64 #[.pointer p, .int .u64 e, q] w fun r w' => r = .returned (.tuple #[.int .i64 0, .int .i64 (accE e)]) ∧ w' = w := by
  have T := hide (takes_any e a0 a1 p w)
  unfold accE
  have hx : (if ownB e = false then (1 : Int) else if p = none then 7 else 0) = if ownB e = false then 1 else 7 := by
    rcases hp with h | h <;> simp [h]
  rw [hx] at T
  obtain ⟨x, hx2⟩ : ∃ x, (if ownB e = false then (1 : Int) else 7) = x := ⟨_, rfl⟩
  have hx0 : (x == 0) = false := by rw [← hx2]; split <;> rfl
  rw [hx2] at T ⊢
  clear hx hp hx2
  go_enter Try.func64, Try.ntmps64
  go_wp2_with fail
  refine T.out.mono ?_
  rintro r w0 ⟨rfl, e0⟩
  obtain rfl := e0.symm
  go_wp2_with fail
  go_ret2
  exact ⟨rfl, rfl⟩
theorem write_no (e : Int) (a0 : 0 ≤ e) (a1 : e ≤ 18446744073709551615) (p : Option Addr) (q : Value) (w : World) (hp : ownB e = false ∨ p = none) : Calls Try.prog 65 #[.pointer p, .int .u64 e, q] w fun r w' => r = .returned (.tuple #[.int .i64 0, .int .i64 (accE e)]) ∧ w' = w := by
  have T := hide (takes_any e a0 a1 p w)
  unfold accE
  have hx : (if ownB e = false then (1 : Int) else if p = none then 7 else 0) = if ownB e = false then 1 else 7 := by
    rcases hp with h | h <;> simp [h]
  rw [hx] at T
  obtain ⟨x, hx2⟩ : ∃ x, (if ownB e = false then (1 : Int) else 7) = x := ⟨_, rfl⟩
  have hx0 : (x == 0) = false := by rw [← hx2]; split <;> rfl
  rw [hx2] at T ⊢
  clear hx hp hx2
  go_enter Try.func65, Try.ntmps65
  go_wp2_with fail
  refine T.out.mono ?_
  rintro r w0 ⟨rfl, e0⟩
  obtain rfl := e0.symm
  go_wp2_with fail
  go_ret2
  exact ⟨rfl, rfl⟩
end Ce
end Go.Proofs.Ytekdcfdjohlfcaa
