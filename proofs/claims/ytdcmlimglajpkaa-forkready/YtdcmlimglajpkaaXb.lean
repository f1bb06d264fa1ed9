/- Package pipe: New, and what only looks, over this seat's program. -/
import Derived.Test.YtdcmlimglajpkaaXa
namespace Go.Proofs.Ytdcmlimglajpkaa
open Go.ChangeShapes Go.WideShapes Go.ChangeAt Go.RowKit
namespace Pi
open Ba Pe

theorem hmf : ∀ (fn : Fn) (first cap : Array Value) (w : World), (Instr.makeFunc fn first cap).run Try.prog w = .ok (.func fn first cap) w := fun _ _ _ _ => rfl
theorem new_err (s : Int) (w : World) (h : s < 0 ∨ 4 < s) :
    Calls Try.prog 18 #[.int .i64 s] w fun r w' => r = .returned (.tuple #[.pointer none, .int .i64 1]) ∧ w' = w := by
  go_enter Try.func18, Try.ntmps18
  go_wp2_with fail
  refine (Rn.new_err s _ h).mono ?_
  rintro r w1 ⟨rfl, rfl⟩
  go_wp2_with fail
  go_ret2
  exact ⟨rfl, rfl⟩
def st0 (s : Nat) : St := ⟨s, [], [], [], 0, 0, false⟩
set_option maxHeartbeats 1600000 in
theorem new_ok (s : Nat) (w : World) (h : s ≤ 4) :
    Calls Try.prog 18 #[.int .i64 (s : Int)] w fun r w' => ∃ B F, r = .returned (.tuple #[.pointer (some ⟨B, 0, none⟩), .int .i64 0]) ∧ Pp w' B F (st0 s) ∧ (∀ k, F k → w.heap.size ≤ k) ∧ Below w.heap.size w w' := by
  go_enter Try.func18, Try.ntmps18
  go_wp2_with fail
  refine (Rn.new_ok s _ h).mono ?_
  rintro r w1 ⟨rfl, r1, b1⟩
  have R1 := hide r1
  have B1 := hide b1
  clear r1 b1
  go_wp2_with fail
  refine (new_any _).mono ?_
  rintro r w2 ⟨rfl, p2, b2⟩
  have P2 := hide p2
  have B2 := hide b2
  clear p2 b2
  go_wp2_with fail
  refine (new_any _).mono ?_
  rintro r w3 ⟨rfl, p3, b3⟩
  have P3 := hide p3
  have B3 := hide b3
  clear p3 b3
  go_wp2_with fail
  go_ret2
  have z1 := R1.out.lt
  have z2 := P2.out.lt
  have z3 := P3.out.lt
  have b4 := below_alloc w3 (.cells #[.pointer (some ⟨w.heap.size, 0, none⟩), .pointer (some ⟨w1.heap.size, 0, none⟩), .pointer (some ⟨w2.heap.size, 0, none⟩), .int .i64 0, .int .i64 0, .bool false] 97)
  have hs := World.size_alloc w3 (.cells #[.pointer (some ⟨w.heap.size, 0, none⟩), .pointer (some ⟨w1.heap.size, 0, none⟩), .pointer (some ⟨w2.heap.size, 0, none⟩), .int .i64 0, .int .i64 0, .bool false] 97)
  refine ⟨w3.heap.size, fun k => w.heap.size ≤ k ∧ k ≤ w3.heap.size, rfl, PO.pp (R := w.heap.size) (S := w1.heap.size) (Q := w2.heap.size) (FS := fun k => k = w1.heap.size) (FQ := fun k => k = w2.heap.size) ⟨heap_new _ _, R1.out.below (btr B2.out (btr B3.out b4)), P2.out.below (btr B3.out b4), P3.out.below b4, ?_, ?_, ?_, ?_, ?_, ?_, ?_, ?_, ?_, ?_⟩, fun k hk => hk.1, btr B1.out (btr B2.out (btr B3.out b4))⟩
  all_goals first
    | (show _ ∧ _; omega)
    | (show ¬ _ = _; omega)
    | (intro k (hk : k = _); show _ ∧ _; omega)
    | (intro k (hk : k = _); show ¬ _ = _; omega)
    | (intro k hk; obtain ⟨h1, h2⟩ := hk; rw [hs]; omega)

theorem len_nil (w : World) :
    Calls Try.prog 30 #[.pointer none] w fun r w' => r = .returned (.int .i64 0) ∧ w' = w := by
  go_enter Try.func30, Try.ntmps30
  go_wp2_with fail
  go_ret
  exact ⟨rfl, rfl⟩
theorem len_any (B : Nat) (F : Nat → Prop) (st : St) (w : World) (h : Pp w B F st) :
    Calls Try.prog 30 #[.pointer (some ⟨B, 0, none⟩)] w fun r w' => r = .returned (.int .i64 (st.buf.length : Int)) ∧ w' = w := by
  obtain ⟨R, S, Q, FS, FQ, h⟩ := h
  have y0 := cell_of h.hp 0
  simp at y0
  have RG := hide h.rg
  clear h
  go_enter Try.func30, Try.ntmps30
  go_wp2_with fail
  refine (Rn.len_any R _ _ _ RG.out).mono ?_
  rintro r w1 ⟨rfl, rfl⟩
  go_wp2_with fail
  go_ret
  exact ⟨rfl, rfl⟩
theorem cap_nil (w : World) :
    Calls Try.prog 68 #[.pointer none] w fun r w' => r = .returned (.int .i64 0) ∧ w' = w := by
  go_enter Try.func68, Try.ntmps68
  go_wp2_with fail
  go_ret
  exact ⟨rfl, rfl⟩
theorem cap_any (B : Nat) (F : Nat → Prop) (st : St) (w : World) (h : Pp w B F st) :
    Calls Try.prog 68 #[.pointer (some ⟨B, 0, none⟩)] w fun r w' => r = .returned (.int .i64 (st.size : Int)) ∧ w' = w := by
  obtain ⟨R, S, Q, FS, FQ, h⟩ := h
  have y0 := cell_of h.hp 0
  simp at y0
  have RG := hide h.rg
  clear h
  go_enter Try.func68, Try.ntmps68
  go_wp2_with fail
  refine (Rn.cap_any R _ _ _ RG.out).mono ?_
  rintro r w1 ⟨rfl, rfl⟩
  go_wp2_with fail
  go_ret
  exact ⟨rfl, rfl⟩
theorem closed_nil (w : World) :
    Calls Try.prog 31 #[.pointer none] w fun r w' => r = .returned (.bool false) ∧ w' = w := by
  go_enter Try.func31, Try.ntmps31
  go_wp2_with fail
  go_ret
  exact ⟨rfl, rfl⟩
theorem closed_any (B : Nat) (F : Nat → Prop) (st : St) (w : World) (h : Pp w B F st) :
    Calls Try.prog 31 #[.pointer (some ⟨B, 0, none⟩)] w fun r w' => r = .returned (.bool st.closed) ∧ w' = w := by
  obtain ⟨R, S, Q, FS, FQ, h⟩ := h
  have y0 := cell_of h.hp 5
  simp at y0
  clear h
  go_enter Try.func31, Try.ntmps31
  go_wp2_with fail
  go_ret
  exact ⟨rfl, rfl⟩
theorem side_nil (b : Bool) (w : World) :
    Calls Try.prog 54 #[.pointer none, .bool b] w fun r w' => r = .returned (.pointer none) ∧ w' = w := by
  go_enter Try.func54, Try.ntmps54
  go_wp2_with fail
  go_ret
  exact ⟨rfl, rfl⟩
def sd (S Q : Nat) (b : Bool) : Nat := if b then S else Q
theorem side_c (B S Q : Nat) (b : Bool) (w : World) (h1 : w.cell? ⟨B, 1, none⟩ = some (.pointer (some ⟨S, 0, none⟩))) (h2 : w.cell? ⟨B, 2, none⟩ = some (.pointer (some ⟨Q, 0, none⟩))) :
    Calls Try.prog 54 #[.pointer (some ⟨B, 0, none⟩), .bool b] w fun r w' => r = .returned (.pointer (some ⟨sd S Q b, 0, none⟩)) ∧ w' = w := by
  unfold sd
  cases b
  · simp only [Bool.false_eq_true, if_false]
    go_enter Try.func54, Try.ntmps54
    go_wp2_with fail
    go_ret
    exact ⟨rfl, rfl⟩
  · simp only [if_true]
    go_enter Try.func54, Try.ntmps54
    go_wp2_with fail
    go_ret
    exact ⟨rfl, rfl⟩
theorem PO.side {w : World} {B : Nat} {F : Nat → Prop} {R S Q : Nat} {FS FQ : Nat → Prop} {st : St} (h : PO w B F R S Q FS FQ st) (b : Bool) :
    Calls Try.prog 54 #[.pointer (some ⟨B, 0, none⟩), .bool b] w fun r w' => r = .returned (.pointer (some ⟨sd S Q b, 0, none⟩)) ∧ w' = w :=
  side_c B S Q b w (cell_of h.hp 1) (cell_of h.hp 2)
theorem PO.pew {w : World} {B : Nat} {F : Nat → Prop} {R S Q : Nat} {FS FQ : Nat → Prop} {st : St} (h : PO w B F R S Q FS FQ st) (b : Bool) : Pw w (sd S Q b) (Pi.own st b) := by
  cases b
  · exact h.pq.pw
  · exact h.ps.pw
theorem waiting_nil (b : Bool) (w : World) :
    Calls Try.prog 29 #[.pointer none, .bool b] w fun r w' => (∃ oa, r = .returned (.slice oa 0 0)) ∧ Below w.heap.size w w' := by
  go_enter Try.func29, Try.ntmps29
  go_wp2_with fail
  refine (side_nil b _).mono ?_
  rintro r w1 ⟨rfl, rfl⟩
  go_wp2_with fail
  refine (list_nil _).mono ?_
  rintro r w2 ⟨⟨oa, rfl⟩, b2⟩
  have B2 := hide b2
  clear b2
  go_wp2_with fail
  go_ret
  exact ⟨⟨oa, rfl⟩, B2.out⟩
theorem waiting_any (B : Nat) (F : Nat → Prop) (st : St) (b : Bool) (w : World) (h : Pp w B F st) :
    Calls Try.prog 29 #[.pointer (some ⟨B, 0, none⟩), .bool b] w fun r w' => ∃ oa c, r = .returned (.slice oa (own st b).length c) ∧ WAt w' oa (own st b) ∧ Below w.heap.size w w' := by
  obtain ⟨R, S, Q, FS, FQ, h⟩ := h
  have SD := hide (h.side b)
  have LS := hide (list_any (sd S Q b) _ w (h.pew b))
  clear h
  generalize sd S Q b = X at SD LS
  generalize own st b = L at LS ⊢
  go_enter Try.func29, Try.ntmps29
  go_wp2_with fail
  refine SD.out.mono ?_
  rintro r w1 ⟨rfl, rfl⟩
  go_wp2_with fail
  refine LS.out.mono ?_
  rintro r w2 ⟨oa, c, rfl, hA, b2⟩
  have B2 := hide b2
  have HA := hide hA
  clear b2 hA
  go_wp2_with fail
  go_ret
  exact ⟨oa, c, rfl, HA.out, B2.out⟩
theorem ready1_any (B : Nat) (F : Nat → Prop) (st : St) (b : Bool) (X : Nat) (w : World) (h : Pp w B F st) (hX : w.cell? ⟨X, 0, none⟩ = some (.pointer (some ⟨B, 0, none⟩))) :
    Calls Try.prog 58 #[.bool b, .pointer (some ⟨X, 0, none⟩)] w fun r w' => r = .returned (.bool (decide (0 < (own st b).length))) ∧ w' = w := by
  obtain ⟨R, S, Q, FS, FQ, h⟩ := h
  have SD := hide (h.side b)
  have LN := hide (Pe.len_any (sd S Q b) _ w (h.pew b))
  clear h
  generalize sd S Q b = Y at SD LN
  generalize own st b = L at LN ⊢
  have hd : decide (0 < (L.length : Int)) = decide (0 < L.length) := by simp
  go_enter Try.func58, Try.ntmps58
  go_wp2_with fail
  refine SD.out.mono ?_
  rintro r w1 ⟨rfl, rfl⟩
  go_wp2_with fail
  refine LN.out.mono ?_
  rintro r w2 ⟨rfl, rfl⟩
  go_wp2_with fail
  go_ret
  exact ⟨ret_bool (by first | exact hd | simp), rfl⟩
end Pi
end Go.Proofs.Ytdcmlimglajpkaa
