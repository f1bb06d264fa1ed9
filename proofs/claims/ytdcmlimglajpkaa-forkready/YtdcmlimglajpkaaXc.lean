/- Package pipe: ready, Ready, over this seat's program. -/
import Derived.Test.YtdcmlimglajpkaaXb
namespace Go.Proofs.Ytdcmlimglajpkaa
open Go.ChangeShapes Go.WideShapes Go.ChangeAt Go.RowKit
namespace Pi
open Ba Pe

theorem ready_nil (b : Bool) (f : Value) (w : World) :
    Calls Try.prog 51 #[.pointer none, .bool b, f] w fun r w' => r = .returned (.bool false) ∧ w' = w := by
  go_enter Try.func51, Try.ntmps51
  go_wp2_with fail
  go_ret
  exact ⟨rfl, rfl⟩
set_option maxHeartbeats 1600000 in
theorem ready_g (n : FuncId) (caps : Array Value) (hn : ∀ (a : Array Value) (u : World), (callFunc n a).run Try.prog u = .ok (.enter n a) u) (b : Bool) (B : Nat) (F : Nat → Prop) (st : St) (send : Bool) (w : World) (h : Pp w B F st)
    (CL : Calls Try.prog n (#[.bool (!send)] ++ caps) w fun r w' => r = .returned (.bool b) ∧ Below w.heap.size w w') :
    Calls Try.prog 51 #[.pointer (some ⟨B, 0, none⟩), .bool send, .func (.func n) #[] caps] w fun r w' => r = .returned (.bool (st.closed || room st send || b)) ∧ Below w.heap.size w w' := by
  have PP := hide h
  have LN := hide (len_any B F st w h)
  have CP := hide (cap_any B F st w h)
  have CC := hide CL
  obtain ⟨R, S, Q, FS, FQ, h⟩ := h
  have y5 := cell_of h.hp 5
  simp at y5
  clear h CL
  have hd0 : decide (0 < (st.buf.length : Int)) = decide (0 < st.buf.length) := by simp
  have hd1 : decide ((st.buf.length : Int) < (st.size : Int)) = decide (st.buf.length < st.size) := by simp
  unfold room
  cases send
  · simp only [Bool.false_eq_true, if_false]
    cases hc : st.closed
    · cases he : decide (0 < st.buf.length)
      · rw [he] at hd0
        rw [hc] at y5
        go_enter Try.func51, Try.ntmps51
        go_wp2_with fail
        refine LN.out.mono ?_
        rintro r w1 ⟨rfl, rfl⟩
        go_wp2_with fail
        refine CC.out.mono ?_
        rintro r w2 ⟨rfl, b2⟩
        have B2 := hide b2
        clear b2
        go_wp2_with fail
        go_ret
        exact ⟨ret_bool (by simp), B2.out⟩
      · rw [he] at hd0
        rw [hc] at y5
        go_enter Try.func51, Try.ntmps51
        go_wp2_with fail
        refine LN.out.mono ?_
        rintro r w1 ⟨rfl, rfl⟩
        go_wp2_with fail
        go_ret
        exact ⟨ret_bool (by simp), Below.refl _ _⟩
    · rw [hc] at y5
      go_enter Try.func51, Try.ntmps51
      go_wp2_with fail
      refine LN.out.mono ?_
      rintro r w1 ⟨rfl, rfl⟩
      go_wp2_with fail
      go_ret
      exact ⟨ret_bool (by simp), Below.refl _ _⟩
  · simp only [if_true]
    cases hc : st.closed
    · cases he : decide (st.buf.length < st.size)
      · rw [he] at hd1
        rw [hc] at y5
        go_enter Try.func51, Try.ntmps51
        go_wp2_with fail
        refine LN.out.mono ?_
        rintro r w1 ⟨rfl, rfl⟩
        go_wp2_with fail
        refine LN.out.mono ?_
        rintro r w1 ⟨rfl, rfl⟩
        go_wp2_with fail
        refine CP.out.mono ?_
        rintro r w1 ⟨rfl, rfl⟩
        go_wp2_with fail
        refine CC.out.mono ?_
        rintro r w2 ⟨rfl, b2⟩
        have B2 := hide b2
        clear b2
        go_wp2_with fail
        go_ret
        exact ⟨ret_bool (by simp), B2.out⟩
      · rw [he] at hd1
        rw [hc] at y5
        go_enter Try.func51, Try.ntmps51
        go_wp2_with fail
        refine LN.out.mono ?_
        rintro r w1 ⟨rfl, rfl⟩
        go_wp2_with fail
        refine LN.out.mono ?_
        rintro r w1 ⟨rfl, rfl⟩
        go_wp2_with fail
        refine CP.out.mono ?_
        rintro r w1 ⟨rfl, rfl⟩
        go_wp2_with fail
        go_ret
        exact ⟨ret_bool (by simp), Below.refl _ _⟩
    · rw [hc] at y5
      go_enter Try.func51, Try.ntmps51
      go_wp2_with fail
      refine LN.out.mono ?_
      rintro r w1 ⟨rfl, rfl⟩
      go_wp2_with fail
      refine LN.out.mono ?_
      rintro r w1 ⟨rfl, rfl⟩
      go_wp2_with fail
      refine CP.out.mono ?_
      rintro r w1 ⟨rfl, rfl⟩
      go_wp2_with fail
      go_ret
      exact ⟨ret_bool (by simp), Below.refl _ _⟩
theorem Ready_nil (b : Bool) (w : World) :
    Calls Try.prog 34 #[.pointer none, .bool b] w fun r w' => r = .returned (.bool false) ∧ Below w.heap.size w w' := by
  have hm := hmf
  go_enter Try.func34, Try.ntmps34
  go_wp2_with fail
  refine (ready_nil b _ _).mono ?_
  rintro r w1 ⟨rfl, rfl⟩
  go_wp2_with fail
  go_ret
  exact ⟨rfl, below_alloc _ _⟩
theorem Ready_any (B : Nat) (F : Nat → Prop) (st : St) (b : Bool) (w : World) (h : Pp w B F st) :
    Calls Try.prog 34 #[.pointer (some ⟨B, 0, none⟩), .bool b] w fun r w' => r = .returned (.bool (rdy st b)) ∧ Below w.heap.size w w' := by
  have hm := hmf
  have BA := hide (below_alloc w (.cells #[.pointer (some ⟨B, 0, none⟩)] 55))
  have PA := hide (h.below BA.out)
  have R1 := hide (ready1_any B F st (!b) w.heap.size _ PA.out (cell_of (heap_new _ _) 0))
  have R2 := hide (ready_g 58 #[.pointer (some ⟨w.heap.size, 0, none⟩)] (fun _ _ => by rfl) (decide (0 < (own st (!b)).length)) B F st b _ PA.out (R1.out.mono (by rintro r w1 ⟨rfl, rfl⟩; exact ⟨rfl, Below.refl _ _⟩)))
  clear h R1
  unfold rdy
  generalize (st.closed || room st b || decide (0 < (own st (!b)).length)) = q at R2 ⊢
  go_enter Try.func34, Try.ntmps34
  go_wp2_with fail
  refine R2.out.mono ?_
  rintro r w1 ⟨rfl, b1⟩
  have B1 := hide (btr BA.out b1)
  clear b1
  go_wp2_with fail
  go_ret
  exact ⟨rfl, B1.out⟩
end Pi
end Go.Proofs.Ytdcmlimglajpkaa
