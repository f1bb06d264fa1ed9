/- Package sheet: the reader's list and program, over this seat's program. -/
import Derived.Test.YtgnhophlnbpcgaaHf
namespace Go.Proofs.Ytgnhophlnbpcgaa
open Go.ChangeShapes Go.WideShapes Go.ChangeAt Go.RowKit
namespace Sh
open De Ba Re

theorem tl_err {L : List Nat} {m e : Int} (h : tl L m = .error e) : e = 4 ∨ e = 2 := by
  unfold tl at h
  split at h
  · simp at h; exact .inl h.symm
  · split at h
    · simp at h; exact .inr h.symm
    · split at h
      · simp at h; exact .inl h.symm
      · simp at h
theorem rd_set1 {w : World} {R : Nat} {s : ByteArray} {z : Nat} {f : Bool} (h : RD2 w R s z f) : RD2 (w.setCell ⟨R, 1, none⟩ (.bool true)) R s z true := Ba.heap_setCell_same h (i := 1) _
theorem rd_set0 {w : World} {R : Nat} {s : ByteArray} {z z' : Nat} {f : Bool} (h : RD2 w R s z f) : RD2 (w.setCell ⟨R, 0, none⟩ (.string (s.extract z' s.size))) R s z' f := Ba.heap_setCell_same h (i := 0) _
theorem rd_cells {w : World} {R : Nat} {s : ByteArray} {z : Nat} {f : Bool} (h : RD2 w R s z f) : (w.cell? ⟨R, 0, none⟩ = some (.string (s.extract z s.size)) ∧ w.cell? ⟨R, 1, none⟩ = some (.bool f)) ∧ w.frozen? ⟨R, 0, none⟩ = false ∧ w.frozen? ⟨R, 1, none⟩ = false :=
  ⟨⟨cell_of h 0, cell_of h 1⟩, frozen_of h 0, frozen_of h 1⟩
theorem sx_size (s : ByteArray) (z : Nat) (hs : s.size ≤ 5000000) : (s.extract z s.size).size ≤ 5000000 := by
  rw [ByteArray.size_extract]
  omega
set_option maxHeartbeats 1600000 in
theorem list_no (R : Nat) (s : ByteArray) (z : Nat) (f : Bool) (most : Int) (w : World) (hR : RD2 w R s z f) (hs : s.size ≤ 5000000) (h : f = true ∨ ∃ e, tl ((nbs s).drop z) most = .error e) :
    Calls Try.prog 48 #[.pointer (some ⟨R, 0, none⟩), .int .i64 most] w fun r w' => r = .returned (.slice none 0 0) ∧ RD2 w' R s z true ∧ De.KB R w w' := by
  obtain ⟨⟨c0, c1⟩, f0, f1⟩ := rd_cells hR
  have HR := hide hR
  have hsx := sx_size s z hs
  cases ht : tl ((nbs s).drop z) most with
  | error e =>
    have HT := hide ht
    obtain ⟨e1, e2⟩ : (e == 0) = false ∧ (e != 0) = true := by
      rcases tl_err ht with rfl | rfl <;> decide
    clear ht h hR
    go_enter Try.func48, Try.ntmps48
    go_wp2_with fail
    refine (takelist_err _ most e _ (by rw [nbs_sfx]; exact HT.out) hsx).mono ?_
    rintro r w1 ⟨rfl, b1⟩
    have R1 := hide (heap_below HR.out b1)
    have K1 := hide (De.KB.of (R := R) b1)
    obtain ⟨⟨d0, d1⟩, g0, g1⟩ := rd_cells R1.out
    clear b1
    cases f
    · go_wp2_with fail
      go_ret
      exact ⟨rfl, rd_set1 R1.out, K1.out.setCell 1 _⟩
    · go_wp2_with fail
      go_ret
      exact ⟨rfl, rd_set1 R1.out, K1.out.setCell 1 _⟩
  | ok p =>
    obtain ⟨xs, k⟩ := p
    have hf : f = true := by
      rcases h with h | ⟨e, h⟩
      · exact h
      · rw [ht] at h; cases h
    subst hf
    have HT := hide ht
    clear ht h hR
    go_enter Try.func48, Try.ntmps48
    go_wp2_with fail
    refine (takelist_ok_f _ most xs k _ (by rw [nbs_sfx]; exact HT.out) hsx).mono ?_
    rintro r w1 ⟨b, rfl, _, _, b1⟩
    have R1 := hide (heap_below HR.out b1)
    have K1 := hide (De.KB.of (R := R) b1)
    obtain ⟨⟨d0, d1⟩, g0, g1⟩ := rd_cells R1.out
    clear b1
    go_wp2_with fail
    go_ret
    exact ⟨rfl, rd_set1 R1.out, K1.out.setCell 1 _⟩
set_option maxHeartbeats 1600000 in
theorem list_ok (R : Nat) (s : ByteArray) (z : Nat) (most : Int) (xs : List Int) (k : Nat) (w : World) (hR : RD2 w R s z false) (hs : s.size ≤ 5000000) (h : tl ((nbs s).drop z) most = .ok (xs, k)) :
    Calls Try.prog 48 #[.pointer (some ⟨R, 0, none⟩), .int .i64 most] w fun r w' => ∃ b, r = .returned (.slice (some ⟨b, 0, none⟩) xs.length xs.length) ∧ At w' (some ⟨b, 0, none⟩) xs ∧ w.heap.size ≤ b ∧ RD2 w' R s (z + k) false ∧ De.KB R w w' := by
  obtain ⟨⟨c0, c1⟩, f0, f1⟩ := rd_cells hR
  have hRl := De.heap_lt hR
  have HR := hide hR
  have hsx := sx_size s z hs
  have HT := hide h
  clear h hR
  go_enter Try.func48, Try.ntmps48
  go_wp2_with fail
  refine (takelist_ok_f _ most xs k _ (by rw [nbs_sfx]; exact HT.out) hsx).mono ?_
  rw [sfx_sfx]
  rintro r w1 ⟨b, rfl, a1, l1, b1⟩
  have R1 := hide (heap_below HR.out b1)
  have K1 := hide (De.KB.of (R := R) b1)
  have A1 := hide a1
  obtain ⟨⟨d0, d1⟩, g0, g1⟩ := rd_cells R1.out
  clear b1 a1
  go_wp2_with fail
  go_ret
  exact ⟨b, rfl, kb_at ((De.KB.refl R w1).setCell 0 _) A1.out (fun a e => by cases e; show b ≠ R; omega), l1, rd_set0 R1.out, K1.out.setCell 0 _⟩

/-- the operation with which bytes begin, of p programs, and how many bytes it has -/
def dop (p : Int) (S : ByteArray) : Option (OpD × Nat) := if (rop S false).2.2 = false ∧ chk (rop S false).1 p = 0 then some ((rop S false).1, (eop (rop S false).1).length) else none
/-- so many operations from z on, and where one stands behind them -/
def rops (p : Int) (s : ByteArray) (z : Nat) : Nat → Option (List OpD × Nat)
  | 0 => some ([], z)
  | n + 1 => match rops p s z n with
    | none => none
    | some (l, y) => match dop p (s.extract y s.size) with
      | none => none
      | some (o, k) => some (l ++ [o], y + k)
theorem rops_stop {p : Int} {s : ByteArray} {z j : Nat} {l : List OpD} {y : Nat} (h : rops p s z j = some (l, y)) (hd : dop p (s.extract y s.size) = none) : ∀ n, j < n → rops p s z n = none := by
  intro n hn
  obtain ⟨d, rfl⟩ : ∃ d, n = j + 1 + d := ⟨n - (j + 1), by omega⟩
  clear hn
  induction d with
  | zero => simp [rops, h, hd]
  | succ d ih => rw [← Nat.add_assoc, rops, ih]
theorem rops_next {p : Int} {s : ByteArray} {z j : Nat} {l : List OpD} {y : Nat} {o : OpD} {k : Nat} (h : rops p s z j = some (l, y)) (hd : dop p (s.extract y s.size) = some (o, k)) : rops p s z (j + 1) = some (l ++ [o], y + k) := by
  simp [rops, h, hd]
theorem rops_len {p : Int} {s : ByteArray} {z j : Nat} {l : List OpD} {y : Nat} (h : rops p s z j = some (l, y)) : l.length = j := by
  induction j generalizing l y with
  | zero => simp [rops] at h; simp [h.1.symm]
  | succ j ih =>
    unfold rops at h
    split at h
    · cases h
    · rename_i l' y' h'
      split at h
      · cases h
      · simp at h
        rw [← h.1]
        simp [ih h']
/-- what is left of bytes behind an operation -/
theorem dop_rest {p : Int} {s : ByteArray} {z : Nat} {o : OpD} {k : Nat} (hz : z ≤ s.size) (h : dop p (s.extract z s.size) = some (o, k)) : (rop (s.extract z s.size) false).2.1 = s.extract (z + k) s.size ∧ z + k ≤ s.size ∧ (rop (s.extract z s.size) false).1 = o ∧ chk o p = 0 ∧ (rop (s.extract z s.size) false).2.2 = false := by
  unfold dop at h
  split at h
  · rename_i hc
    obtain ⟨h1, h2⟩ := hc
    generalize hr : rop (s.extract z s.size) false = x at h h1 h2
    obtain ⟨o', R, f⟩ := x
    simp only at h h1 h2
    subst h1
    simp at h
    obtain ⟨rfl, rfl⟩ := h
    have inv := rop_inv hr
    rw [nbs_sfx] at inv
    have hlen := congrArg List.length inv
    rw [List.length_drop, nbs_length, List.length_append] at hlen
    have he : (eop o').length = (De.pls (nums o')).length := rfl
    refine ⟨?_, by omega, rfl, h2, rfl⟩
    apply nbs_inj
    rw [nbs_sfx, ← List.drop_drop, inv, eop, List.drop_left]
  · cases h

theorem cat_kb {R : Nat} {w w' : World} {oa : Option Addr} {l : List Cs} (k : De.KB R w w') (h : CAt w oa l) (hb : ∀ a, oa = some a → a.block ≠ R) : CAt w' oa l := by
  intro j x hj
  obtain ⟨b, off, rfl, h1, h2, h3⟩ := h j x hj
  exact ⟨b, off, rfl, kb_cell k h1 (hb _ rfl), kb_cell k h2 (hb _ rfl), kb_cell k h3 (hb _ rfl)⟩
/-- a row of operations in block g, the cases of each in blocks from N on -/
def OF (w : World) (N g : Nat) (l : List OpD) : Prop :=
  ∀ t o, l[t]? = some o → ∃ ca cc, (w.cell? ⟨g, t * 5, none⟩ = some (.int .i64 o.kind) ∧ w.cell? ⟨g, t * 5 + 1, none⟩ = some (.int .i64 o.a) ∧ w.cell? ⟨g, t * 5 + 2, none⟩ = some (.int .i64 o.b) ∧ w.cell? ⟨g, t * 5 + 3, none⟩ = some (.slice ca o.cases.length cc) ∧ w.cell? ⟨g, t * 5 + 4, none⟩ = some (.bool o.def_)) ∧ CAt w ca o.cases ∧ (∀ a, ca = some a → N ≤ a.block) ∧ o.cases.length ≤ 3000
/-- there is room for n operations in block g -/
def OR (w : World) (g n : Nat) : Prop := (∀ c, c < n * 5 → (w.cell? ⟨g, c, none⟩).isSome = true) ∧ ∀ c, w.frozen? ⟨g, c, none⟩ = false
theorem OF.kb {w w' : World} {N g R : Nat} {l : List OpD} (h : OF w N g l) (k : De.KB R w w') (h1 : R < N) (h2 : g ≠ R) : OF w' N g l := by
  intro t o ht
  obtain ⟨ca, cc, ⟨q0, q1, q2, q3, q4⟩, hC, hN, hl⟩ := h t o ht
  exact ⟨ca, cc, ⟨kb_cell k q0 h2, kb_cell k q1 h2, kb_cell k q2 h2, kb_cell k q3 h2, kb_cell k q4 h2⟩, cat_kb k hC (fun a e => by have := hN a e; omega), hN, hl⟩
theorem OR.kb {w w' : World} {g n R : Nat} (h : OR w g n) (k : De.KB R w w') (hg : g < w.heap.size) (h2 : g ≠ R) : OR w' g n := by
  have hb := k.block g hg h2
  refine ⟨fun c hc => ?_, fun c => ?_⟩
  · have := h.1 c hc
    rw [World.cell?] at this ⊢
    rw [hb]
    exact this
  · have := h.2 c
    rw [World.frozen?] at this ⊢
    rw [hb]
    exact this
theorem OF.at {w : World} {N g : Nat} {l : List OpD} (h : OF w N g l) : OAt w (some ⟨g, 0, none⟩) l := by
  intro k o hk
  obtain ⟨ca, cc, ⟨q0, q1, q2, q3, q4⟩, hC, _, hl⟩ := h k o hk
  refine ⟨g, 0, ca, cc, rfl, ⟨?_, ?_, ?_, ?_, ?_⟩, hC, by unfold maxLen; omega⟩ <;> rw [Nat.zero_add] <;> assumption
theorem OF.store {w : World} {N g n j : Nat} {l : List OpD} (h : OF w N g l) (hr : OR w g n) (hg : g < N) (hl : l.length = j) (hj : j < n) (o : OpD) (ca : Option Addr) (cc : Nat) (hC : CAt w ca o.cases) (hN : ∀ a, ca = some a → N ≤ a.block) (h4 : o.cases.length ≤ 3000) (w' : World) (hw : w' = w.setCells g (j * 5) [.int .i64 o.kind, .int .i64 o.a, .int .i64 o.b, .slice ca o.cases.length cc, .bool o.def_]) : OF w' N g (l ++ [o]) ∧ OR w' g n := by
  subst hw
  have cin := World.cell?_setCells_in g [.int .i64 o.kind, .int .i64 o.a, .int .i64 o.b, .slice ca o.cases.length cc, .bool o.def_] (j * 5) w (fun i hi => hr.1 _ (by simp at hi; omega))
  have cout : ∀ x : Addr, (x.block = g → x.spot = none → x.off < j * 5 ∨ j * 5 + 5 ≤ x.off) → (w.setCells g (j * 5) [.int .i64 o.kind, .int .i64 o.a, .int .i64 o.b, .slice ca o.cases.length cc, .bool o.def_]).cell? x = w.cell? x := World.cell?_setCells_out g [.int .i64 o.kind, .int .i64 o.a, .int .i64 o.b, .slice ca o.cases.length cc, .bool o.def_] (j * 5) w
  have cat : ∀ (ca' : Option Addr) (cs : List Cs), CAt w ca' cs → (∀ a, ca' = some a → N ≤ a.block) → CAt (w.setCells g (j * 5) [.int .i64 o.kind, .int .i64 o.a, .int .i64 o.b, .slice ca o.cases.length cc, .bool o.def_]) ca' cs := by
    intro ca' cs hc hn i x hi
    obtain ⟨b, off, rfl, h1, h2, h3⟩ := hc i x hi
    have hb := hn _ rfl
    simp only at hb
    refine ⟨b, off, rfl, ?_, ?_, ?_⟩ <;> (rw [cout]; assumption; intro e; simp only at e; omega)
  refine ⟨?_, ?_, ?_⟩
  · intro t x ht
    by_cases e : t < l.length
    · rw [List.getElem?_append_left e] at ht
      obtain ⟨ca', cc', ⟨q0, q1, q2, q3, q4⟩, hC', hN', hl'⟩ := h t x ht
      refine ⟨ca', cc', ⟨?_, ?_, ?_, ?_, ?_⟩, cat _ _ hC' hN', hN', hl'⟩ <;> (rw [cout]; assumption; intro _ _; simp only; omega)
    · have ht2 : t = j := by
        have := (List.getElem?_eq_some_iff.1 ht).1
        rw [List.length_append, List.length_cons, List.length_nil] at this
        omega
      subst ht2
      rw [List.getElem?_append_right (by omega), hl, Nat.sub_self] at ht
      simp at ht
      subst ht
      refine ⟨ca, cc, ⟨?_, ?_, ?_, ?_, ?_⟩, cat _ _ hC hN, hN, h4⟩
      · exact cin 0 (by simp)
      · exact cin 1 (by simp)
      · exact cin 2 (by simp)
      · exact cin 3 (by simp)
      · exact cin 4 (by simp)
  · intro c hc
    by_cases e : c < j * 5 ∨ j * 5 + 5 ≤ c
    · rw [cout _ (fun _ _ => e)]
      exact hr.1 c hc
    · have := cin (c - j * 5) (by simp; omega)
      rw [show j * 5 + (c - j * 5) = c by omega] at this
      rw [this]
      rfl
  · intro c
    rw [World.frozen?_setCells]
    exact hr.2 c
end Sh
end Go.Proofs.Ytgnhophlnbpcgaa
