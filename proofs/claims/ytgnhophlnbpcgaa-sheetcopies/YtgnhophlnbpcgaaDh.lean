/- Package deed: Decode, over this seat's program. -/
import Derived.Test.YtgnhophlnbpcgaaDg
namespace Go.Proofs.Ytgnhophlnbpcgaa
open Go.ChangeShapes Go.WideShapes Go.ChangeAt Go.RowKit
namespace De
open Ba Re

/-- what Decode answers: 0 and the operation and what is behind; or an error -/
def dec (s : ByteArray) (p : Int) : Int := bif okP p then (bif (rop s false).2.2 then 4 else bif chk (rop s false).1 p == 0 then 0 else 4) else 1

theorem results_row3 {fn : Func} {p u v : Tmp} {ty : TypeId} (h : fn.results = #[.cell p ty, .tmp u, .tmp v]) (tmps : Array Value) (w : World) (g : Nat) (cs : Array Value) (x y : Value)
    (hp : tmps.getD p undef = .pointer (some ⟨g, 0, none⟩)) (hx : tmps.getD u undef = x) (hy : tmps.getD v undef = y) (hl : (loadVar ty ⟨g, 0, none⟩).run Try.prog w = .ok (.agg cs) w) :
    (results fn tmps).run Try.prog w = .ok (.tuple #[.agg cs, x, y]) w := by
  subst hx hy
  have hp' : tmps[p]?.getD undef = .pointer (some ⟨g, 0, none⟩) := by simpa using hp
  simp [results, h, hp', asAddr, hl]

set_option maxRecDepth 100000 in
set_option maxHeartbeats 1600000 in
theorem decode_arg (s : ByteArray) (p : Int) (w : World) (h : okP p = false) :
    Calls Try.prog 9 #[.string s, .int .i64 p] w fun r w' => r = .returned (.tuple #[.agg #[.int .i64 0, .int .i64 0, .int .i64 0, .slice none 0 0, .bool false], .string (bs []), .int .i64 1]) ∧ Below w.heap.size w w' := by
  have H := hide h
  clear h
  go_enter Try.func9, Try.ntmps9
  go_wp2_with fail
  refine (isCount_any _ _).mono ?_
  rw [H.out]
  rintro r w1 ⟨rfl, rfl⟩
  go_wp2_with fail
  exact bodyPost_ret (results_row3 Try.results9 _ _ _ _ _ _ rfl rfl rfl (loadVar_op (heap_new _ _) rfl)) rfl ⟨rfl, below_alloc _ _⟩

theorem CAt.five {w : World} {oa : Option Addr} {l : List Cs} {Z : Nat} {x y z : Int} {t : Bool} {ty : TypeId} (h : CAt w oa l) (hZ : w.heap[Z]? = some (.cells #[.int .i64 x, .int .i64 y, .int .i64 z, .slice none 0 0, .bool t] ty (0, 0))) (u0 u1 u2 u3 u4 : Value) : CAt (((((w.setCell ⟨Z, 0, none⟩ u0).setCell ⟨Z, 1, none⟩ u1).setCell ⟨Z, 2, none⟩ u2).setCell ⟨Z, 3, none⟩ u3).setCell ⟨Z, 4, none⟩ u4) oa l := by
  intro k c hk
  obtain ⟨b, off, he, h1, h2, h3⟩ := h k c hk
  have hb : b ≠ Z := by
    intro e
    subst e
    rw [cell_of hZ] at h1 h2
    generalize off + k * 3 = i at h1 h2
    match i with
    | 0 => simp at h1
    | 1 => simp at h1
    | 2 => simp at h1
    | 3 => simp at h1
    | 4 => simp at h2
    | i + 5 => simp at h1
  have e : ∀ i, (((((w.setCell ⟨Z, 0, none⟩ u0).setCell ⟨Z, 1, none⟩ u1).setCell ⟨Z, 2, none⟩ u2).setCell ⟨Z, 3, none⟩ u3).setCell ⟨Z, 4, none⟩ u4).cell? ⟨b, i, none⟩ = w.cell? ⟨b, i, none⟩ := fun i => by
    simp only [World.cell?]
    rw [five_other Z b hb]
  exact ⟨b, off, he, (e _).trans h1, (e _).trans h2, (e _).trans h3⟩
theorem rop_len (s : ByteArray) (f : Bool) : (rop s f).1.cases.length ≤ 4 := by
  unfold rop
  cases h : (rnum s f).1 == 6
  · simp [h]
  · have := rup_bd 4 (by decide) (rup 1 (rf (rnum s f).2.1 (rnum s f).2.2 (nf (rnum s f).1)).2.2.1 (rf (rnum s f).2.1 (rnum s f).2.2 (nf (rnum s f).1)).2.2.2).2.1 (rup 1 (rf (rnum s f).2.1 (rnum s f).2.2 (nf (rnum s f).1)).2.2.1 (rf (rnum s f).2.1 (rnum s f).2.2 (nf (rnum s f).1)).2.2.2).2.2
    simp only [h, cond_true, rcs_len]
    omega

set_option maxRecDepth 100000 in
set_option maxHeartbeats 1600000 in
theorem decode_main_f (s : ByteArray) (p : Int) (w : World) (h : okP p = true) :
    Calls Try.prog 9 #[.string s, .int .i64 p] w fun r w' => (((rop s false).2.2 = true ∨ (chk (rop s false).1 p == 0) = false) ∧ r = .returned (.tuple #[.agg #[.int .i64 0, .int .i64 0, .int .i64 0, .slice none 0 0, .bool false], .string (bs []), .int .i64 4]) ∨ (rop s false).2.2 = false ∧ chk (rop s false).1 p = 0 ∧ ∃ oa c, r = .returned (.tuple #[.agg #[.int .i64 (rop s false).1.kind, .int .i64 (rop s false).1.a, .int .i64 (rop s false).1.b, .slice oa (rop s false).1.cases.length c, .bool (rop s false).1.def_], .string (rop s false).2.1, .int .i64 0]) ∧ CAt w' oa (rop s false).1.cases ∧ ∀ a, oa = some a → w.heap.size ≤ a.block) ∧ Below w.heap.size w w' := by
  have H := hide h
  clear h
  go_enter Try.func9, Try.ntmps9
  go_wp2_with fail
  refine (isCount_any _ _).mono ?_
  rw [H.out]
  rintro r w1 ⟨rfl, hw1⟩
  rw [hw1]
  clear hw1
  have R0 : Hid (RS ((w.alloc (.cells #[.int .i64 0, .int .i64 0, .int .i64 0, .slice none 0 0, .bool false] 24)).alloc (.cells #[.string s, .bool false] 61)) (w.heap.size + 1) s false) := by
    have := heap_new (w.alloc (.cells #[.int .i64 0, .int .i64 0, .int .i64 0, .slice none 0 0, .bool false] 24)) (.cells #[.string s, .bool false] 61)
    rw [World.size_alloc] at this
    exact this
  have Z0 := hide (heap_below (heap_new w (.cells #[.int .i64 0, .int .i64 0, .int .i64 0, .slice none 0 0, .bool false] 24)) (below_alloc (w.alloc (.cells #[.int .i64 0, .int .i64 0, .int .i64 0, .slice none 0 0, .bool false] 24)) (.cells #[.string s, .bool false] 61)))
  have B0 := hide (btr (below_alloc w (.cells #[.int .i64 0, .int .i64 0, .int .i64 0, .slice none 0 0, .bool false] 24)) (below_alloc (w.alloc (.cells #[.int .i64 0, .int .i64 0, .int .i64 0, .slice none 0 0, .bool false] 24)) (.cells #[.string s, .bool false] 61)))
  go_wp2_with fail
  refine (op_reads_f (w.heap.size + 1) s false _ R0.out).mono ?_
  obtain ⟨o, s1, f1, hp1⟩ : ∃ o s1 f1, rop s false = (o, s1, f1) := ⟨_, _, _, rfl⟩
  have RP := hide hp1
  rw [hp1]
  clear hp1
  rintro r w2 ⟨⟨oa, c, rfl, hA, hF⟩, hr, hk⟩
  have HF : Hid (∀ a, oa = some a → w.heap.size ≤ a.block) := fun a e => by have := hF a e; simp at this; omega
  clear hF
  have A2 := hide hA
  have R2 := hide hr
  have Z2 := hide (hk.heap Z0.out (by omega))
  have B2 := hide (KB.below B0.out hk (by omega))
  have rd1 := cell_of hr 1
  have rd0 := cell_of hr 0
  simp at rd1 rd0
  have rlt := heap_lt hr
  have zlt := heap_lt Z2.out
  have HL : Hid (o.cases.length ≤ maxLen) := by
    show _ ≤ _
    have := rop_len s false
    rw [RP.out] at this
    unfold maxLen
    simp only at this
    omega
  obtain ⟨k, a, b, cs, d⟩ := o
  simp only at A2 HL ⊢
  clear hA hr hk R0 Z0 B0
  have A3 := hide (A2.out.below (below_alloc w2 (.cells #[.int .i64 k, .int .i64 a, .int .i64 b, .slice oa cs.length c, .bool d] 24)))
  cases f1
  · go_wp2_with fail
    refine (check_any ⟨k, a, b, cs, d⟩ _ _ p _ A3.out HL.out).mono ?_
    rintro r w3 ⟨rfl, b3⟩
    have Z3 := hide (heap_below Z2.out (btr (below_alloc _ _) b3))
    have R3 := hide (heap_below R2.out (btr (below_alloc _ _) b3))
    have O3 := hide (heap_below (heap_new w2 (.cells #[.int .i64 k, .int .i64 a, .int .i64 b, .slice oa cs.length c, .bool d] 24)) b3)
    have A4 := hide (A3.out.below b3)
    have B3 := hide (btr B2.out (btr (below_alloc _ _) b3))
    have rc0 := cell_of Z3.out 0
    have rc1 := cell_of Z3.out 1
    have rc2 := cell_of Z3.out 2
    have rc3 := cell_of Z3.out 3
    have rc4 := cell_of Z3.out 4
    have rf0 := frozen_of Z3.out 0
    have rf1 := frozen_of Z3.out 1
    have rf2 := frozen_of Z3.out 2
    have rf3 := frozen_of Z3.out 3
    have rf4 := frozen_of Z3.out 4
    simp at rc0 rc1 rc2 rc3 rc4
    have sd0 := cell_of R3.out 0
    have od0 := cell_of O3.out 0
    have od1 := cell_of O3.out 1
    have od2 := cell_of O3.out 2
    have od3 := cell_of O3.out 3
    have od4 := cell_of O3.out 4
    simp at sd0 od0 od1 od2 od3 od4
    clear b3
    cases hc : chk ⟨k, a, b, cs, d⟩ p == 0
    · have hc' : (chk ⟨k, a, b, cs, d⟩ p != 0) = true := by simp [bne, hc]
      have HC := hide hc
      clear hc
      go_wp2_with fail
      exact bodyPost_ret (results_row3 Try.results9 _ _ _ _ _ _ rfl rfl rfl (loadVar_op (five_set Z3.out _ _ _ _ _) rfl)) rfl ⟨.inl ⟨.inr (by rw [RP.out]; exact HC.out), rfl⟩, (((((B3.out.setCell (Nat.le_refl _) _).setCell (Nat.le_refl _) _).setCell (Nat.le_refl _) _).setCell (Nat.le_refl _) _).setCell (Nat.le_refl _) _)⟩
    · have hc' : (chk ⟨k, a, b, cs, d⟩ p != 0) = false := by simp [bne, hc]
      have HC : Hid (chk ⟨k, a, b, cs, d⟩ p = 0) := by show _ = _; simpa using hc
      clear hc
      go_wp2_with fail
      go_region
      all_goals
        go_wp2_with fail
        exact bodyPost_ret (results_row3 Try.results9 _ _ _ _ _ _ rfl rfl rfl (loadVar_op (heap_below (five_set Z3.out _ _ _ _ _) (bdrew1 _)) rfl)) rfl ⟨.inr ⟨by rw [RP.out], by rw [RP.out]; exact HC.out, oa, c, by rw [RP.out]; rfl, by rw [RP.out]; exact (CAt.five A4.out Z3.out _ _ _ _ _).below (bdrew1 _), HF.out⟩, btr (((((B3.out.setCell (Nat.le_refl _) _).setCell (Nat.le_refl _) _).setCell (Nat.le_refl _) _).setCell (Nat.le_refl _) _).setCell (Nat.le_refl _) _) (bdrew1 _)⟩
  · have Z3 := hide (heap_below Z2.out (below_alloc w2 (.cells #[.int .i64 k, .int .i64 a, .int .i64 b, .slice oa cs.length c, .bool d] 24)))
    have rc0 := cell_of Z2.out 0
    have rc1 := cell_of Z2.out 1
    have rc2 := cell_of Z2.out 2
    have rc3 := cell_of Z2.out 3
    have rc4 := cell_of Z2.out 4
    have rf0 := frozen_of Z2.out 0
    have rf1 := frozen_of Z2.out 1
    have rf2 := frozen_of Z2.out 2
    have rf3 := frozen_of Z2.out 3
    have rf4 := frozen_of Z2.out 4
    simp at rc0 rc1 rc2 rc3 rc4
    go_wp2_with fail
    exact bodyPost_ret (results_row3 Try.results9 _ _ _ _ _ _ rfl rfl rfl (loadVar_op (heap_below (five_set Z2.out _ _ _ _ _) (below_alloc _ _)) rfl)) rfl ⟨.inl ⟨.inl (by rw [RP.out]), rfl⟩, btr (((((B2.out.setCell (Nat.le_refl _) _).setCell (Nat.le_refl _) _).setCell (Nat.le_refl _) _).setCell (Nat.le_refl _) _).setCell (Nat.le_refl _) _) (below_alloc _ _)⟩
theorem decode_main (s : ByteArray) (p : Int) (w : World) (h : okP p = true) :
    Calls Try.prog 9 #[.string s, .int .i64 p] w fun r w' => (((rop s false).2.2 = true ∨ (chk (rop s false).1 p == 0) = false) ∧ r = .returned (.tuple #[.agg #[.int .i64 0, .int .i64 0, .int .i64 0, .slice none 0 0, .bool false], .string (bs []), .int .i64 4]) ∨ (rop s false).2.2 = false ∧ chk (rop s false).1 p = 0 ∧ ∃ oa c, r = .returned (.tuple #[.agg #[.int .i64 (rop s false).1.kind, .int .i64 (rop s false).1.a, .int .i64 (rop s false).1.b, .slice oa (rop s false).1.cases.length c, .bool (rop s false).1.def_], .string (rop s false).2.1, .int .i64 0]) ∧ CAt w' oa (rop s false).1.cases) ∧ Below w.heap.size w w' := by
  refine (decode_main_f s p w h).mono ?_
  rintro r w' ⟨h1 | ⟨h1, h2, oa, c, h3, h4, _⟩, hb⟩
  · exact ⟨.inl h1, hb⟩
  · exact ⟨.inr ⟨h1, h2, oa, c, h3, h4⟩, hb⟩
end De
end Go.Proofs.Ytgnhophlnbpcgaa
