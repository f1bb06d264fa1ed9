import Derived.Test.YtocmdehpbipmlaaZjSheet2
import Derived.Deep.Slices
import Derived.ShutString
import Derived.ChangeOld
/- Package deed: Releases; the laws' own send(), over this seat's program. -/
namespace Go.Proofs.Ytocmdehpbipmlaa
open Go.ChangeShapes Go.WideShapes Go.ChangeAt Go.RowKit
namespace De
open Ba Re

theorem rel_3 (a b : Int) (v : Value) (d : Bool) (oa : Option Addr) (n c : Nat) (hv : v = .slice oa n c) (w : World) :
    Calls Try.prog 33 #[.agg #[.int .i64 3, .int .i64 a, .int .i64 b, v, .bool d]] w fun r w' => r = .returned (.bool true) ∧ Below w.heap.size w w' := by
  subst hv
  go_enter Try.func33, Try.ntmps33
  go_wp2_with fail
  go_ret
  exact ⟨rfl, below_alloc _ _⟩

def o7 : OpD := ⟨3, 2, 7, [], false⟩
def s7 : ByteArray := ⟨#[3, 2, 7, 97]⟩
theorem nx {s : ByteArray} {L : List Nat} {n k : Nat} (h : nbs s = L) (ht : tk L = some (n, k)) : rnum s false = ((n : Int), s.extract k s.size, false) := rnum_s (by rw [h]; exact ht)
theorem nsfx {s : ByteArray} {L : List Nat} (h : nbs s = L) (k : Nat) : nbs (s.extract k s.size) = L.drop k := by
  rw [nbs_extract, ← nbs_length, List.take_length, h]
theorem rop7 : ∃ r, rop s7 false = (o7, r, false) ∧ r.toList = [97] := by
  have h0 : nbs s7 = [3, 2, 7, 97] := by decide
  have r0 := nx h0 (n := 3) (k := 1) (by decide)
  have h1 := nsfx h0 1
  have r1 := nx h1 (n := 2) (k := 1) (by decide)
  have h2 := nsfx h1 1
  have r2 := nx h2 (n := 7) (k := 1) (by decide)
  have h3 := nsfx h2 1
  generalize s7.extract 1 s7.size = S1 at *
  generalize S1.extract 1 S1.size = S2 at *
  generalize S2.extract 1 S2.size = S3 at *
  refine ⟨S3, ?_, ?_⟩
  · unfold rop
    rw [r0]
    simp only [show nf ((3 : Nat) : Int) = 2 from rfl, rf, r1, r2]
    rfl
  · have e : S3 = bs [97] := nbs_inj (by rw [h3, nbs_bs _ (by decide)]; decide)
    rw [e, toList_is]
    decide

set_option maxRecDepth 100000 in
set_option maxHeartbeats 1600000 in
theorem send_any (w : World) :
    Calls Try.prog 12 #[] w fun r w' => r = .returned (.bool true) ∧ Below w.heap.size w w' := by
  obtain ⟨R, hR, hR2⟩ := rop7
  have HR := hide hR
  have e1 : (bs (pls (nums o7))).toList = [3, 2, 7] := by rw [toList_is]; decide
  go_enter Try.func12, Try.ntmps12
  go_wp2_with fail
  refine (encode_ok o7 _ _ 1 _ (CAt.nil _ _) (by decide) (by decide) (nums_ok (by decide : chk o7 1 = 0))).mono ?_
  generalize bs (pls (nums o7)) = E at e1 ⊢
  rintro r w1 ⟨rfl, b1⟩
  have O1 := hide (heap_below (heap_new w (.cells #[.int .i64 3, .int .i64 2, .int .i64 7, .slice none 0 0, .bool false] 24)) b1)
  have B1 := hide (btr (below_alloc _ _) b1)
  clear b1
  go_wp2_with fail
  refine (decode_main s7 1 _ (by decide)).mono ?_
  rw [HR.out]
  rintro r w2 ⟨⟨hq, _⟩ | ⟨_, _, oa, c, rfl, hA⟩, b2⟩
  · rcases hq with hq | hq
    · cases hq
    · simp only at hq
      exact absurd hq (by decide)
  have O2 := hide (heap_below O1.out b2)
  have B2 := hide (btr B1.out b2)
  have A2 := hide hA
  clear b2 hA hR
  have oc0 := cell_of O2.out 0
  have oc1 := cell_of O2.out 1
  have oc2 := cell_of O2.out 2
  have oc3 := cell_of O2.out 3
  have oc4 := cell_of O2.out 4
  have olt := heap_lt O2.out
  simp at oc0 oc1 oc2 oc3 oc4
  have A3 := hide (A2.out.below (below_alloc w2 (.cells #[.int .i64 3, .int .i64 2, .int .i64 7, .slice oa 0 c, .bool false] 24)))
  simp only [o7, List.length_nil]
  go_wp2_with fail
  refine (plain_any o7 o7 _ _ _ _ _ (CAt.nil _ _) (CAt.nil _ _) (by decide) (by decide)).mono ?_
  rintro r w3 ⟨⟨x, rfl, hx⟩, b3⟩
  obtain rfl : x = true := hx.2 rfl
  have O3 := hide (heap_below O2.out (btr (below_alloc _ _) b3))
  have B3 := hide (btr B2.out (btr (below_alloc _ _) b3))
  have od0 := cell_of O3.out 0
  have od1 := cell_of O3.out 1
  have od2 := cell_of O3.out 2
  have od3 := cell_of O3.out 3
  have od4 := cell_of O3.out 4
  simp at od0 od1 od2 od3 od4
  clear b3 hx
  go_wp2_with fail
  refine (rel_3 2 7 _ false none 0 0 rfl _).mono ?_
  rintro r w4 ⟨rfl, b4⟩
  have B4 := hide (btr B3.out b4)
  clear b4
  go_wp2_with fail
  go_ret
  exact ⟨rfl, B4.out⟩
end De
end Go.Proofs.Ytocmdehpbipmlaa
/- An operation among a law's arguments, opened. -/
namespace Go.Proofs.Ytocmdehpbipmlaa
open Go.ChangeShapes Go.WideShapes Go.ChangeAt Go.RowKit
namespace De
open Ba Re

theorem cells_case : Try.prog.cellsOf 58 = 3 := by kernel_rfl
theorem cells_op : Try.prog.cellsOf 24 = 5 := by kernel_rfl
theorem cells_int : Try.prog.cellsOf 3 = 1 := by kernel_rfl
theorem cells_bool : Try.prog.cellsOf 4 = 1 := by kernel_rfl
theorem cells_cases : Try.prog.cellsOf 22 = 1 := by kernel_rfl

theorem fields3 : ∃ fs : Array Field, Try.prog.underlying 58 = some (.struct fs) ∧ fs.size = 3 ∧ (∃ f, fs[0]? = some f ∧ f.offset = 0 ∧ f.type = 4) ∧ (∃ f, fs[1]? = some f ∧ f.offset = 1 ∧ f.type = 3) ∧ (∃ f, fs[2]? = some f ∧ f.offset = 2 ∧ f.type = 3) :=
  ⟨_, Try.underlying58, rfl, ⟨_, rfl, rfl, rfl⟩, ⟨_, rfl, rfl, rfl⟩, ⟨_, rfl, rfl, rfl⟩⟩
theorem fields5 : ∃ fs : Array Field, Try.prog.underlying 24 = some (.struct fs) ∧ fs.size = 5 ∧ (∃ f, fs[0]? = some f ∧ f.offset = 0 ∧ f.type = 3) ∧ (∃ f, fs[1]? = some f ∧ f.offset = 1 ∧ f.type = 3) ∧ (∃ f, fs[2]? = some f ∧ f.offset = 2 ∧ f.type = 3) ∧ (∃ f, fs[3]? = some f ∧ f.offset = 3 ∧ f.type = 22) ∧ (∃ f, fs[4]? = some f ∧ f.offset = 4 ∧ f.type = 4) :=
  ⟨_, Try.underlying24, rfl, ⟨_, rfl, rfl, rfl⟩, ⟨_, rfl, rfl, rfl⟩, ⟨_, rfl, rfl, rfl⟩, ⟨_, rfl, rfl, rfl⟩, ⟨_, rfl, rfl, rfl⟩⟩
theorem one_of {cs : List Value} {j : Nat} {v : Value} (h : (cs.drop j).take 1 = [v]) : cs[j]? = some v := by
  have : ((cs.drop j).take 1)[0]? = some v := by rw [h]; rfl
  simpa using this

section
variable {H : Type} {enc : TypeId × Value → H} {w : World}
theorem case_open {n : Nat} {cs : List Value} {x : DataW H × List MemPlace} (h : DataW.trod enc Try.prog w 0 (fun _ => true) true n 58 cs = some x) : ∃ c : Cs, cs[0]? = some (.bool c.send) ∧ cs[1]? = some (.int .i64 c.ch) ∧ cs[2]? = some (.int .i64 c.val) := by
  obtain ⟨fs, hu, hsz, field3_0, field3_1, field3_2⟩ := fields3
  obtain ⟨xs, k, _, _, _, hxl, hff⟩ := DataW.trod_struct hu h
  rw [hsz] at hxl
  obtain ⟨f0, g0, o0, t0⟩ := field3_0
  have h0 := hff 0 f0 g0
  rw [o0, t0, cells_bool] at h0
  obtain ⟨f1, g1, o1, t1⟩ := field3_1
  have h1 := hff 1 f1 g1
  rw [o1, t1, cells_int] at h1
  obtain ⟨f2, g2, o2, t2⟩ := field3_2
  have h2 := hff 2 f2 g2
  rw [o2, t2, cells_int] at h2
  rw [List.getElem?_eq_getElem (by omega)] at h0 h1 h2
  obtain ⟨b, hb, _⟩ := DataW.trod_bool Try.underlying4 h0
  obtain ⟨c, hc, _⟩ := DataW.trod_int Try.underlying3 h1
  obtain ⟨v, hv, _⟩ := DataW.trod_int Try.underlying3 h2
  exact ⟨⟨b, c, v⟩, one_of hb, one_of hc, one_of hv⟩

theorem cases_open {n : Nat} {v : Value} {x : DataW H × List MemPlace} (h : DataW.trod enc Try.prog w 0 (fun _ => true) true n 22 [v] = some x) : ∃ (l : List Cs) (oa : Option Addr) (c : Nat), v = .slice oa l.length c ∧ CAt w oa l ∧ l.length ≤ maxLen := by
  rcases Go.Deep.open_slice Try.underlying22 h with ⟨hcs, _⟩ | ⟨a, len, cap, m, n', D, Pl, hcs, _, hl, hm, hmm, _, hel⟩
  · simp at hcs
    subst hcs
    exact ⟨[], none, 0, rfl, CAt.nil _ _, Nat.zero_le _⟩
  · simp at hcs
    subst hcs
    have hmc : m = cap := by simpa using hmm
    subst hmc
    have key : ∀ i, i < len → ∃ c : Cs, w.cell? ((a.add (i * 3)).add 0) = some (.bool c.send) ∧ w.cell? ((a.add (i * 3)).add 1) = some (.int .i64 c.ch) ∧ w.cell? ((a.add (i * 3)).add 2) = some (.int .i64 c.val) := by
      intro i hi
      obtain ⟨cs', h1, h2⟩ := hel i (by omega)
      rw [cells_case] at h1
      obtain ⟨_, _, hcell⟩ := World.cells?_some h1
      obtain ⟨c, q0, q1, q2⟩ := case_open h2
      exact ⟨c, (hcell 0 (by decide)).trans q0, (hcell 1 (by decide)).trans q1, (hcell 2 (by decide)).trans q2⟩
    have fam : ∃ f : Nat → Cs, ∀ i, i < len → w.cell? ((a.add (i * 3)).add 0) = some (.bool (f i).send) ∧ w.cell? ((a.add (i * 3)).add 1) = some (.int .i64 (f i).ch) ∧ w.cell? ((a.add (i * 3)).add 2) = some (.int .i64 (f i).val) := by
      refine ⟨fun i => if hi : i < len then Classical.choose (key i hi) else ⟨false, 0, 0⟩, fun i hi => ?_⟩
      simp only [dif_pos hi]
      exact Classical.choose_spec (key i hi)
    obtain ⟨f, hf⟩ := fam
    have hlen : ((List.range len).map f).length = len := by simp
    refine ⟨(List.range len).map f, some a, m, by rw [hlen], ?_, by rw [hlen]; omega⟩
    intro k c hk
    have hk2 : k < len := by
      have := (List.getElem?_eq_some_iff.1 hk).1
      simpa using this
    have hc : c = f k := by
      simp [hk2] at hk
      exact hk.symm
    subst hc
    have hspot : a.spot = none := by
      have := World.cell?_spot (hf 0 (by omega)).1
      simpa [Addr.add] using this
    obtain ⟨b, off, spot⟩ := a
    simp at hspot
    subst hspot
    obtain ⟨q0, q1, q2⟩ := hf k hk2
    rw [Addr.add_lit, Addr.add_lit] at q0 q1 q2
    exact ⟨b, off, rfl, q0, q1, q2⟩

set_option maxRecDepth 100000 in
theorem op_open {n : Nat} {v : Value} {x : DataW H × List MemPlace} (h : DataW.trod enc Try.prog w 0 (fun _ => true) true n 24 v.cells.toList = some x) : ∃ (o : OpD) (oa : Option Addr) (c : Nat), v = .agg #[.int .i64 o.kind, .int .i64 o.a, .int .i64 o.b, .slice oa o.cases.length c, .bool o.def_] ∧ CAt w oa o.cases ∧ o.cases.length ≤ maxLen := by
  obtain ⟨fs, hu, hsz, field5_0, field5_1, field5_2, field5_3, field5_4⟩ := fields5
  obtain ⟨xs, k, _, _, hcl, hxl, hff⟩ := DataW.trod_struct hu h
  rw [hsz] at hxl
  rw [cells_op] at hcl
  obtain ⟨f0, g0, o0, t0⟩ := field5_0
  have h0 := hff 0 f0 g0
  rw [o0, t0, cells_int] at h0
  obtain ⟨f1, g1, o1, t1⟩ := field5_1
  have h1 := hff 1 f1 g1
  rw [o1, t1, cells_int] at h1
  obtain ⟨f2, g2, o2, t2⟩ := field5_2
  have h2 := hff 2 f2 g2
  rw [o2, t2, cells_int] at h2
  obtain ⟨f3, g3, o3, t3⟩ := field5_3
  have h3 := hff 3 f3 g3
  rw [o3, t3, cells_cases] at h3
  obtain ⟨f4, g4, o4, t4⟩ := field5_4
  have h4 := hff 4 f4 g4
  rw [o4, t4, cells_bool] at h4
  rw [List.getElem?_eq_getElem (by omega)] at h0 h1 h2 h3 h4
  obtain ⟨i0, e0, _⟩ := DataW.trod_int Try.underlying3 h0
  obtain ⟨i1, e1, _⟩ := DataW.trod_int Try.underlying3 h1
  obtain ⟨i2, e2, _⟩ := DataW.trod_int Try.underlying3 h2
  obtain ⟨i4, e4, _⟩ := DataW.trod_bool Try.underlying4 h4
  have hz : ∃ z, (v.cells.toList.drop 3).take 1 = [z] := by
    have hl : ((v.cells.toList.drop 3).take 1).length = 1 := by simp at hcl ⊢; omega
    match hq : (v.cells.toList.drop 3).take 1, hl with
    | [z], _ => exact ⟨z, rfl⟩
  obtain ⟨z, e3⟩ := hz
  rw [e3] at h3
  obtain ⟨l, oa, c, rfl, hA, hm⟩ := cases_open h3
  refine ⟨⟨i0, i1, i2, l, i4⟩, oa, c, ?_, hA, hm⟩
  have hc : v.cells = #[.int .i64 i0, .int .i64 i1, .int .i64 i2, .slice oa l.length c, .bool i4] := by
    apply Array.toList_inj.1
    have q0 := one_of e0
    have q1 := one_of e1
    have q2 := one_of e2
    have q3 := one_of e3
    have q4 := one_of e4
    generalize v.cells.toList = L at *
    match L, hcl with
    | [y0, y1, y2, y3, y4], _ =>
      simp at q0 q1 q2 q3 q4
      simp [q0, q1, q2, q3, q4]
  cases v with
  | agg cs => rw [← hc]; rfl
  | _ => have := congrArg Array.size hc; simp [Value.cells] at this
end
end De
end Go.Proofs.Ytocmdehpbipmlaa
/- There and back: operations and their bytes, plain. -/
namespace Go.Proofs.Ytocmdehpbipmlaa
open Go.ChangeShapes Go.WideShapes Go.ChangeAt Go.RowKit
namespace De
open Ba Re

theorem foldl_dg (k n : Nat) : ∀ a, (dg k n).foldl (fun a b => 256 * a + b) a = a * 256 ^ k + n % 256 ^ k := by
  induction k with
  | zero => intro a; simp [dg, Nat.mod_one]
  | succ k ih =>
    intro a
    rw [show dg (k + 1) n = n / 256 ^ k % 256 :: dg k n from rfl, List.foldl_cons, ih, Nat.mod_pow_succ, Nat.pow_succ, Nat.add_mul]
    have e1 : 256 * a * 256 ^ k = a * (256 ^ k * 256) := by rw [Nat.mul_comm 256 a, Nat.mul_assoc, Nat.mul_comm 256]
    have e2 : n / 256 ^ k % 256 * 256 ^ k = 256 ^ k * (n / 256 ^ k % 256) := Nat.mul_comm _ _
    rw [e1, e2]
    omega
theorem vl_dg (k n : Nat) (h : n < 256 ^ k) : vl (dg k n) = n := by
  have := foldl_dg k n 0
  rw [Nat.zero_mul, Nat.zero_add, Nat.mod_eq_of_lt h] at this
  exact this
set_option maxRecDepth 100000 in
theorem nb_holds (n : Nat) (h : n ≤ 1099511627776) : n < 256 ^ nb n := by
  unfold nb
  by_cases h1 : n < 256
  · rw [if_pos h1]; exact h1
  rw [if_neg h1]
  by_cases h2 : n < 65536
  · rw [if_pos h2]; exact h2
  rw [if_neg h2]
  by_cases h3 : n < 16777216
  · rw [if_pos h3]; exact h3
  rw [if_neg h3]
  by_cases h4 : n < 4294967296
  · rw [if_pos h4]; exact h4
  rw [if_neg h4]
  by_cases h5 : n < 1099511627776
  · rw [if_pos h5]; exact h5
  rw [if_neg h5]
  have : 256 ^ 6 = 281474976710656 := rfl
  omega
theorem tk_spl (n : Nat) (R : List Nat) (h : n ≤ 1099511627776) : tk (spl n ++ R) = some (n, (spl n).length) := by
  by_cases h1 : n < 240
  · rw [spl_lo n h1]
    simp [tk, h1]
  · have hz := szn_lo n h
    rw [spl_hi n (by omega)] at hz ⊢
    rw [List.length_cons, dg_length] at hz
    rw [List.length_cons, dg_length, List.cons_append]
    have h2 := nb_le n
    have h3 := nb_pos n
    have e : 240 + nb n - 240 = nb n := by omega
    have et : (dg (nb n) n ++ R).take (nb n) = dg (nb n) n := by
      rw [List.take_append_of_le_length (by rw [dg_length]; exact Nat.le_refl _), List.take_of_length_le (by rw [dg_length]; exact Nat.le_refl _)]
    have ev := vl_dg (nb n) n (nb_holds n h)
    simp only [tk]
    rw [if_neg (by omega), e, et, ev, if_pos ⟨h3, h2, by rw [List.length_append, dg_length]; omega, by omega⟩, Nat.add_comm]
theorem tk_put {L : List Nat} {n k : Nat} (hL : ∀ b ∈ L, b < 256) (h : tk L = some (n, k)) : spl n ++ L.drop k = L := by
  cases L with
  | nil => simp [tk] at h
  | cons b t =>
    simp only [tk] at h
    by_cases h1 : b < 240
    · rw [if_pos h1] at h
      simp at h
      obtain ⟨rfl, rfl⟩ := h
      rw [spl_lo b h1]
      rfl
    · rw [if_neg h1] at h
      split at h
      · rename_i q
        simp only [Option.some.injEq, Prod.mk.injEq] at h
        obtain ⟨rfl, rfl⟩ := h
        have := ((fit_iff (t.take (b - 240)) (b - 240) q.1 (by simp; omega) (fun x hx => hL x (List.mem_cons_of_mem _ (List.mem_of_mem_take hx)))).1 q.2.2.2).2
        rw [this, show 240 + (b - 240) = b by omega, Nat.add_comm 1]
        simp
      · simp at h
theorem tk_bound {L : List Nat} {n k : Nat} (h : tk L = some (n, k)) : n ≤ 1099511627776 := by
  cases L with
  | nil => simp [tk] at h
  | cons b t =>
    simp only [tk] at h
    split at h
    · simp at h
      obtain ⟨rfl, _⟩ := h
      omega
    · split at h
      · rename_i q
        simp only [Option.some.injEq, Prod.mk.injEq] at h
        obtain ⟨rfl, _⟩ := h
        have := q.2.2.2
        by_cases e : vl (t.take (b - 240)) ≤ 1099511627776
        · exact e
        · rw [szn_hi _ e] at this; omega
      · simp at h

theorem pls_cons (x : Int) (l : List Int) : pls (x :: l) = spl x.toNat ++ pls l := by simp [pls]
theorem pls_append (a b : List Int) : pls (a ++ b) = pls a ++ pls b := by simp [pls]
theorem pls_nil : pls [] = [] := rfl

/-! there -/
theorem rn {s : ByteArray} {n : Int} {R : List Nat} (hn : okR n = true) (h : nbs s = spl n.toNat ++ R) : ∃ r, rnum s false = (n, r, false) ∧ nbs r = R := by
  obtain ⟨h0, h1⟩ := (okR_iff n).1 hn
  have ht := tk_spl n.toNat R (by omega)
  rw [← h] at ht
  refine ⟨_, ?_, nsfx h _ |>.trans (by rw [List.drop_left])⟩
  rw [rnum_s ht]
  simp only [Prod.mk.injEq, and_true]
  omega
theorem ru {s : ByteArray} {n m : Int} {R : List Nat} (hn : 0 ≤ n) (hm : n ≤ m) (hb : n ≤ 1000) (h : nbs s = spl n.toNat ++ R) : ∃ r, rup m s false = (n, r, false) ∧ nbs r = R := by
  obtain ⟨r, h1, h2⟩ := rn (by rw [okR_iff]; omega) h
  refine ⟨r, ?_, h2⟩
  have hd : decide (m < n) = false := by simp; omega
  simp only [rup, h1, hd, cond_false]
theorem bt_one (b : Bool) : (bt b == 1) = b := by cases b <;> decide
theorem rcs_enc (l : List Cs) (hl : ∀ x ∈ l, okC x = true) (s : ByteArray) (R : List Nat) (h : nbs s = pls (l.flatMap cn) ++ R) : ∀ j, j ≤ l.length → ∃ r, rcs s false j = (l.take j, r, false) ∧ nbs r = pls ((l.drop j).flatMap cn) ++ R := by
  intro j
  induction j with
  | zero => intro _; exact ⟨s, rfl, h⟩
  | succ j ih =>
    intro hj
    obtain ⟨r, h1, h2⟩ := ih (by omega)
    have hlt : j < l.length := by omega
    rw [List.drop_eq_getElem_cons hlt, List.flatMap_cons, pls_append, List.append_assoc] at h2
    have hok := okC_bd (hl l[j] (List.getElem_mem hlt))
    have hbt := bt_bd l[j].send
    have e : pls (cn l[j]) = spl (bt l[j].send).toNat ++ (spl (l[j].ch).toNat ++ spl (l[j].val).toNat) := by simp [pls, cn]
    rw [e, List.append_assoc, List.append_assoc] at h2
    obtain ⟨r1, q1, p1⟩ := ru (m := 1) hbt.1 hbt.2 (by omega) h2
    obtain ⟨r2, q2, p2⟩ := rn (by rw [okR_iff]; omega) p1
    obtain ⟨r3, q3, p3⟩ := rn (by rw [okR_iff]; omega) p2
    refine ⟨r3, ?_, p3⟩
    rw [rcs, h1]
    simp only [rc, q1, q2, q3, bt_one]
    rw [List.take_add_one, List.getElem?_eq_getElem hlt]
    rfl
theorem rop_enc {o : OpD} {p : Int} (hc : chk o p = 0) (s : ByteArray) (R : List Nat) (h : nbs s = pls (nums o) ++ R) : ∃ r, rop s false = (o, r, false) ∧ nbs r = R := by
  obtain ⟨hp, hk, hl, ha, hb, hd, hcs⟩ := chk_zero hc
  have hA := mA_le o.kind p hp.2
  have hB := mB_le o.kind
  obtain ⟨k, a, b, cs, d⟩ := o
  simp only at hk hl ha hb hd hcs hA hB
  unfold nums at h
  simp only at h
  rw [List.cons_append, pls_cons, List.append_assoc] at h
  obtain ⟨s1, q1, p1⟩ := rn (by rw [okR_iff]; omega) h
  unfold rop
  rw [q1]
  simp only
  rcases kind_cases hk.1 hk.2 with rfl | rfl | rfl | rfl | rfl | rfl | rfl | rfl | rfl
  case inr.inr.inr.inr.inr.inl =>
    have ea : a = 0 := by simp [mA] at ha; omega
    have eb : b = 0 := by simp [mB] at hb; omega
    subst ea eb
    have e : pls ([(0 : Int), 0].take (nf 6) ++ (bif (6 : Int) == 6 then bt d :: (cs.length : Int) :: cs.flatMap cn else [])) = spl (bt d).toNat ++ (spl (cs.length : Int).toNat ++ pls (cs.flatMap cn)) := by simp [nf, pls]
    rw [e, List.append_assoc, List.append_assoc] at p1
    have hbt := bt_bd d
    obtain ⟨s2, q2, p2⟩ := ru (m := 1) hbt.1 hbt.2 (by omega) p1
    obtain ⟨s3, q3, p3⟩ := ru (m := 4) (by omega) (by omega) (by omega) p2
    obtain ⟨s4, q4, p4⟩ := rcs_enc cs hcs s3 R p3 cs.length (Nat.le_refl _)
    refine ⟨s4, ?_, by rw [p4, List.drop_length]; rfl⟩
    simp only [show nf 6 = 0 from rfl, rf, q2, q3, Int.toNat_natCast, q4, List.take_length, bt_one]
    rfl
  case inl =>
    obtain ⟨rfl, rfl⟩ : d = false ∧ cs = [] := by
      rcases hd with hd | hd
      · omega
      · exact hd
    have eb : b = 0 := by simp [mB] at hb; omega
    subst eb
    have e : pls ([(a : Int), 0].take (nf 1) ++ (bif (1 : Int) == 6 then bt false :: (([] : List Cs).length : Int) :: ([] : List Cs).flatMap cn else [])) = spl a.toNat := by simp [nf, pls]
    rw [e] at p1
    obtain ⟨s2, q2, p2⟩ := rn (by rw [okR_iff]; omega) p1
    refine ⟨s2, ?_, p2⟩
    simp only [show nf 1 = 1 from rfl, rf, q2]
    rfl
  case inr.inl =>
    obtain ⟨rfl, rfl⟩ : d = false ∧ cs = [] := by
      rcases hd with hd | hd
      · omega
      · exact hd
    have e : pls ([(a : Int), b].take (nf 2) ++ (bif (2 : Int) == 6 then bt false :: (([] : List Cs).length : Int) :: ([] : List Cs).flatMap cn else [])) = spl a.toNat ++ spl b.toNat := by simp [nf, pls]
    rw [e, List.append_assoc] at p1
    obtain ⟨s2, q2, p2⟩ := rn (by rw [okR_iff]; omega) p1
    obtain ⟨s3, q3, p3⟩ := rn (by rw [okR_iff]; omega) p2
    refine ⟨s3, ?_, p3⟩
    simp only [show nf 2 = 2 from rfl, rf, q2, q3]
    rfl
  case inr.inr.inl =>
    obtain ⟨rfl, rfl⟩ : d = false ∧ cs = [] := by
      rcases hd with hd | hd
      · omega
      · exact hd
    have e : pls ([(a : Int), b].take (nf 3) ++ (bif (3 : Int) == 6 then bt false :: (([] : List Cs).length : Int) :: ([] : List Cs).flatMap cn else [])) = spl a.toNat ++ spl b.toNat := by simp [nf, pls]
    rw [e, List.append_assoc] at p1
    obtain ⟨s2, q2, p2⟩ := rn (by rw [okR_iff]; omega) p1
    obtain ⟨s3, q3, p3⟩ := rn (by rw [okR_iff]; omega) p2
    refine ⟨s3, ?_, p3⟩
    simp only [show nf 3 = 2 from rfl, rf, q2, q3]
    rfl
  case inr.inr.inr.inl =>
    obtain ⟨rfl, rfl⟩ : d = false ∧ cs = [] := by
      rcases hd with hd | hd
      · omega
      · exact hd
    have eb : b = 0 := by simp [mB] at hb; omega
    subst eb
    have e : pls ([(a : Int), 0].take (nf 4) ++ (bif (4 : Int) == 6 then bt false :: (([] : List Cs).length : Int) :: ([] : List Cs).flatMap cn else [])) = spl a.toNat := by simp [nf, pls]
    rw [e] at p1
    obtain ⟨s2, q2, p2⟩ := rn (by rw [okR_iff]; omega) p1
    refine ⟨s2, ?_, p2⟩
    simp only [show nf 4 = 1 from rfl, rf, q2]
    rfl
  case inr.inr.inr.inr.inl =>
    obtain ⟨rfl, rfl⟩ : d = false ∧ cs = [] := by
      rcases hd with hd | hd
      · omega
      · exact hd
    have eb : b = 0 := by simp [mB] at hb; omega
    subst eb
    have e : pls ([(a : Int), 0].take (nf 5) ++ (bif (5 : Int) == 6 then bt false :: (([] : List Cs).length : Int) :: ([] : List Cs).flatMap cn else [])) = spl a.toNat := by simp [nf, pls]
    rw [e] at p1
    obtain ⟨s2, q2, p2⟩ := rn (by rw [okR_iff]; omega) p1
    refine ⟨s2, ?_, p2⟩
    simp only [show nf 5 = 1 from rfl, rf, q2]
    rfl
  case inr.inr.inr.inr.inr.inr.inl =>
    obtain ⟨rfl, rfl⟩ : d = false ∧ cs = [] := by
      rcases hd with hd | hd
      · omega
      · exact hd
    have eb : b = 0 := by simp [mB] at hb; omega
    subst eb
    have e : pls ([(a : Int), 0].take (nf 7) ++ (bif (7 : Int) == 6 then bt false :: (([] : List Cs).length : Int) :: ([] : List Cs).flatMap cn else [])) = spl a.toNat := by simp [nf, pls]
    rw [e] at p1
    obtain ⟨s2, q2, p2⟩ := rn (by rw [okR_iff]; omega) p1
    refine ⟨s2, ?_, p2⟩
    simp only [show nf 7 = 1 from rfl, rf, q2]
    rfl
  case inr.inr.inr.inr.inr.inr.inr.inl =>
    obtain ⟨rfl, rfl⟩ : d = false ∧ cs = [] := by
      rcases hd with hd | hd
      · omega
      · exact hd
    have eb : b = 0 := by simp [mB] at hb; omega
    subst eb
    have e : pls ([(a : Int), 0].take (nf 8) ++ (bif (8 : Int) == 6 then bt false :: (([] : List Cs).length : Int) :: ([] : List Cs).flatMap cn else [])) = spl a.toNat := by simp [nf, pls]
    rw [e] at p1
    obtain ⟨s2, q2, p2⟩ := rn (by rw [okR_iff]; omega) p1
    refine ⟨s2, ?_, p2⟩
    simp only [show nf 8 = 1 from rfl, rf, q2]
    rfl
  case inr.inr.inr.inr.inr.inr.inr.inr =>
    obtain ⟨rfl, rfl⟩ : d = false ∧ cs = [] := by
      rcases hd with hd | hd
      · omega
      · exact hd
    have eb : b = 0 := by simp [mB] at hb; omega
    subst eb
    have ea : a = 0 := by simp [mA] at ha; omega
    subst ea
    have e : pls ([(0 : Int), 0].take (nf 9) ++ (bif (9 : Int) == 6 then bt false :: (([] : List Cs).length : Int) :: ([] : List Cs).flatMap cn else [])) = [] := by simp [nf, pls]
    rw [e] at p1
    exact ⟨s1, rfl, p1⟩
end De
end Go.Proofs.Ytocmdehpbipmlaa
/- What is decoded was encoded so, plain; Decode in one contract. -/
namespace Go.Proofs.Ytocmdehpbipmlaa
open Go.ChangeShapes Go.WideShapes Go.ChangeAt Go.RowKit
namespace De
open Ba Re

theorem rn_inv {s r : ByteArray} {f : Bool} {n : Int} (h : rnum s f = (n, r, false)) : f = false ∧ 0 ≤ n ∧ nbs s = spl n.toNat ++ nbs r := by
  cases f
  · cases ht : tk (nbs s) with
    | none => rw [rnum_n ht] at h; simp at h
    | some q =>
      obtain ⟨m, k⟩ := q
      rw [rnum_s ht] at h
      simp only [Prod.mk.injEq, and_true] at h
      obtain ⟨rfl, rfl⟩ := h
      refine ⟨rfl, Int.natCast_nonneg _, ?_⟩
      rw [nsfx rfl, Int.toNat_natCast]
      exact (tk_put (nbs_lt s) ht).symm
  · rw [rnum_t] at h; simp at h
theorem ru_inv {m : Int} {s r : ByteArray} {f : Bool} {n : Int} (h : rup m s f = (n, r, false)) : f = false ∧ 0 ≤ n ∧ n ≤ m ∧ nbs s = spl n.toNat ++ nbs r := by
  unfold rup at h
  cases hd : decide (m < (rnum s f).1)
  · rw [hd] at h
    simp only [cond_false] at h
    obtain ⟨h1, h2, h3⟩ := rn_inv h
    rw [h] at hd
    simp at hd
    exact ⟨h1, h2, hd, h3⟩
  · rw [hd] at h
    simp at h
theorem bt_of (n : Int) (h0 : 0 ≤ n) (h1 : n ≤ 1) : bt (n == 1) = n := by
  have : n = 0 ∨ n = 1 := by omega
  rcases this with rfl | rfl <;> rfl
theorem rc_inv {s r : ByteArray} {f : Bool} {x : Cs} (h : rc s f = (x, r, false)) : f = false ∧ nbs s = pls (cn x) ++ nbs r := by
  unfold rc at h
  obtain ⟨b, s1, f1, e1⟩ : ∃ b s1 f1, rup 1 s f = (b, s1, f1) := ⟨_, _, _, rfl⟩
  rw [e1] at h
  simp only at h
  obtain ⟨c, s2, f2, e2⟩ : ∃ c s2 f2, rnum s1 f1 = (c, s2, f2) := ⟨_, _, _, rfl⟩
  rw [e2] at h
  simp only at h
  obtain ⟨v, s3, f3, e3⟩ : ∃ v s3 f3, rnum s2 f2 = (v, s3, f3) := ⟨_, _, _, rfl⟩
  rw [e3] at h
  simp only [Prod.mk.injEq] at h
  obtain ⟨rfl, rfl, rfl⟩ := h
  obtain ⟨rfl, _, q3⟩ := rn_inv e3
  obtain ⟨rfl, _, q2⟩ := rn_inv e2
  obtain ⟨rfl, p0, p1, q1⟩ := ru_inv e1
  refine ⟨rfl, ?_⟩
  rw [q1, q2, q3]
  simp [pls, cn, bt_of b p0 p1]
theorem rcs_inv {s : ByteArray} {f : Bool} : ∀ {j : Nat} {l : List Cs} {r : ByteArray}, rcs s f j = (l, r, false) → f = false ∧ nbs s = pls (l.flatMap cn) ++ nbs r
  | 0, l, r, h => by
    simp only [rcs, Prod.mk.injEq] at h
    obtain ⟨rfl, rfl, rfl⟩ := h
    exact ⟨rfl, rfl⟩
  | j + 1, l, r, h => by
    rw [rcs] at h
    obtain ⟨l0, s0, f0, e0⟩ : ∃ l0 s0 f0, rcs s f j = (l0, s0, f0) := ⟨_, _, _, rfl⟩
    rw [e0] at h
    simp only [Prod.mk.injEq] at h
    obtain ⟨h1, h2⟩ := h
    obtain ⟨rfl, q⟩ := rc_inv (s := s0) (f := f0) (x := (rc s0 f0).1) (r := r) (by rw [← h2])
    obtain ⟨rfl, q0⟩ := rcs_inv e0
    refine ⟨rfl, ?_⟩
    rw [q0, q, ← h1, List.flatMap_append, pls_append, List.append_assoc]
    simp
theorem rf_inv {s r : ByteArray} {f : Bool} {n : Nat} (hn : n ≤ 2) {a b : Int} (h : rf s f n = (a, b, r, false)) : f = false ∧ nbs s = pls ([a, b].take n) ++ nbs r := by
  match n, hn with
  | 0, _ =>
    simp only [rf, Prod.mk.injEq] at h
    obtain ⟨_, _, rfl, rfl⟩ := h
    exact ⟨rfl, rfl⟩
  | 1, _ =>
    simp only [rf, Prod.mk.injEq] at h
    obtain ⟨h1, _, h2, h3⟩ := h
    obtain ⟨rfl, _, q⟩ := rn_inv (s := s) (f := f) (n := a) (r := r) (by rw [← h1, ← h2, ← h3])
    refine ⟨rfl, ?_⟩
    rw [q]
    simp [pls]
  | 2, _ =>
    simp only [rf, Prod.mk.injEq] at h
    obtain ⟨h1, h2, h3, h4⟩ := h
    obtain ⟨x, s1, f1, e1⟩ : ∃ x s1 f1, rnum s f = (x, s1, f1) := ⟨_, _, _, rfl⟩
    rw [e1] at h1 h2 h3 h4
    simp only at h1 h2 h3 h4
    obtain ⟨rfl, _, q2⟩ := rn_inv (s := s1) (f := f1) (n := b) (r := r) (by rw [← h2, ← h3, ← h4])
    obtain ⟨rfl, _, q1⟩ := rn_inv e1
    refine ⟨rfl, ?_⟩
    rw [q1, q2, ← h1]
    simp [pls]
theorem rop_inv {s r : ByteArray} {o : OpD} (h : rop s false = (o, r, false)) : nbs s = pls (nums o) ++ nbs r := by
  unfold rop at h
  obtain ⟨k, s1, f1, e1⟩ : ∃ k s1 f1, rnum s false = (k, s1, f1) := ⟨_, _, _, rfl⟩
  rw [e1] at h
  simp only at h
  obtain ⟨a, b, s2, f2, e2⟩ : ∃ a b s2 f2, rf s1 f1 (nf k) = (a, b, s2, f2) := ⟨_, _, _, _, rfl⟩
  rw [e2] at h
  simp only at h
  cases h6 : k == 6
  · rw [h6] at h
    simp only [cond_false, Prod.mk.injEq] at h
    obtain ⟨rfl, rfl, rfl⟩ := h
    obtain ⟨rfl, q2⟩ := rf_inv (nf_le k) e2
    obtain ⟨_, _, q1⟩ := rn_inv e1
    rw [q1, q2]
    simp [nums, h6, pls]
  · rw [h6] at h
    obtain rfl : k = 6 := by simpa using h6
    simp only [cond_true] at h
    obtain ⟨dn, s3, f3, e3⟩ : ∃ dn s3 f3, rup 1 s2 f2 = (dn, s3, f3) := ⟨_, _, _, rfl⟩
    rw [e3] at h
    simp only at h
    obtain ⟨n, s4, f4, e4⟩ : ∃ n s4 f4, rup 4 s3 f3 = (n, s4, f4) := ⟨_, _, _, rfl⟩
    rw [e4] at h
    simp only at h
    obtain ⟨l, s5, f5, e5⟩ : ∃ l s5 f5, rcs s4 f4 n.toNat = (l, s5, f5) := ⟨_, _, _, rfl⟩
    rw [e5] at h
    simp only [Prod.mk.injEq] at h
    obtain ⟨rfl, rfl, rfl⟩ := h
    have hl := rcs_len s4 f4 n.toNat
    rw [e5] at hl
    simp only at hl
    obtain ⟨rfl, q5⟩ := rcs_inv e5
    obtain ⟨rfl, n0, _, q4⟩ := ru_inv e4
    obtain ⟨rfl, d0, d1, q3⟩ := ru_inv e3
    obtain ⟨rfl, q2⟩ := rf_inv (nf_le 6) e2
    obtain ⟨_, _, q1⟩ := rn_inv e1
    rw [q1, q2, q3, q4, q5]
    have en : (l.length : Int) = n := by omega
    simp [nums, pls, nf, bt_of dn d0 d1, en]

/-- what Decode answers -/
theorem decode_any (s : ByteArray) (p : Int) (w : World) :
    Calls Try.prog 9 #[.string s, .int .i64 p] w fun r w' => ((∃ e : Int, (e == 0) = false ∧ (e != 0) = true ∧ (e = if okP p = true then 4 else 1) ∧ (okP p = false ∨ (rop s false).2.2 = true ∨ (chk (rop s false).1 p == 0) = false) ∧ r = .returned (.tuple #[.agg #[.int .i64 0, .int .i64 0, .int .i64 0, .slice none 0 0, .bool false], .string (bs []), .int .i64 e])) ∨ (okP p = true ∧ (rop s false).2.2 = false ∧ chk (rop s false).1 p = 0 ∧ ∃ oa c, r = .returned (.tuple #[.agg #[.int .i64 (rop s false).1.kind, .int .i64 (rop s false).1.a, .int .i64 (rop s false).1.b, .slice oa (rop s false).1.cases.length c, .bool (rop s false).1.def_], .string (rop s false).2.1, .int .i64 0]) ∧ CAt w' oa (rop s false).1.cases)) ∧ Below w.heap.size w w' := by
  cases hp : okP p
  · refine (decode_arg s p w hp).mono ?_
    rintro r w' ⟨rfl, hb⟩
    exact ⟨.inl ⟨1, by decide, by decide, by simp, .inl rfl, rfl⟩, hb⟩
  · refine (decode_main s p w hp).mono ?_
    rintro r w' ⟨⟨hq, rfl⟩ | ⟨h1, h2, oa, c, rfl, hA⟩, hb⟩
    · exact ⟨.inl ⟨4, by decide, by decide, by simp, .inr hq, rfl⟩, hb⟩
    · exact ⟨.inr ⟨rfl, h1, h2, oa, c, rfl, hA⟩, hb⟩
end De
end Go.Proofs.Ytocmdehpbipmlaa
/- Package reel: PutList, over this seat's program. -/
namespace Go.Proofs.Ytocmdehpbipmlaa
open Go.ChangeShapes Go.WideShapes Go.ChangeAt Go.RowKit
namespace Re
open Ba

/-- the bytes of numbers, one behind the other -/
def pls (l : List Int) : List Nat := l.flatMap fun n => spl n.toNat
/-- a list's bytes -/
def plist (l : List Int) : List Nat := spl l.length ++ pls l
theorem pls_take (l : List Int) (k : Nat) (h : k < l.length) : pls (l.take (k + 1)) = pls (l.take k) ++ spl (nth l k).toNat := by
  rw [pls, List.take_add_one, List.getElem?_eq_getElem h, nth_lt l k h, List.flatMap_append]
  show _ ++ (spl _ ++ []) = _
  rw [List.append_nil]
  rfl
theorem pls_len (l : List Int) : (pls l).length ≤ 7 * l.length := by
  induction l with
  | nil => simp [pls]
  | cons n l ih =>
    have := (spl_len n.toNat).2
    simp [pls] at ih ⊢
    omega
/-- the list's bytes up to k -/
def ppre (l : List Int) (k : Nat) : List Nat := spl l.length ++ pls (l.take k)
theorem ppre_len (l : List Int) (k : Nat) (h : k ≤ l.length) : 1 ≤ (ppre l k).length ∧ (ppre l k).length ≤ 7 + 7 * k := by
  have h1 := spl_len l.length
  have h2 := pls_len (l.take k)
  simp [ppre] at h2 ⊢
  omega
theorem ppre_succ (l : List Int) (k : Nat) (h : k < l.length) : ppre l (k + 1) = ppre l k ++ spl (nth l k).toNat := by
  rw [ppre, pls_take l k h, ppre, List.append_assoc]
theorem ppre_all (l : List Int) : ppre l l.length = plist l := by rw [ppre, List.take_length, plist]
theorem all_ok {l : List Int} (h : ∀ j, j < l.length → okR (nth l j) = true) : l.all okR = true := by
  rw [List.all_eq_true]
  intro x hx
  obtain ⟨j, hj, rfl⟩ := List.getElem_of_mem hx
  have := h j hj
  rwa [nth_lt l j hj] at this
theorem all_not {l : List Int} (j : Nat) (hj : j < l.length) (h : okR (nth l j) = false) : l.all okR = false := by
  rw [List.all_eq_false]
  exact ⟨l[j], List.getElem_mem hj, by rw [nth_lt l j hj] at h; simp [h]⟩
theorem info_byte : (Try.prog.info? 5).map (fun i => (i.zero, i.size, i.bytes)) = some (some (.int .u8 0), 1, 1) := by kernel_rfl
def bv (L : List Nat) : List Value := L.map fun b => .int .u8 ((UInt8.ofNat b).toNat : Int)
theorem bv_length (L : List Nat) : (bv L).length = L.length := by simp [bv]
theorem bv_append (K L : List Nat) : bv (K ++ L) = bv K ++ bv L := by simp [bv]
theorem bv_one (L : List Nat) : ∀ u ∈ bv L, u.oneCell' = true := by
  intro u hu
  simp only [bv, List.mem_map] at hu
  obtain ⟨_, _, rfl⟩ := hu
  rfl
theorem room_src {w : World} {b a : Nat} {L : List Nat} {t : TypeId} (h : w.heap[b]? = some (.cells (rm L) t (0, 0))) (ha : a + L.length = 7) (hL : ∀ b ∈ L, b < 256) : ∀ j u, (bv L)[j]? = some u → w.cell? (Addr.add ⟨b, a, none⟩ j) = some u := by
  intro j u hj
  have hl : j < L.length := by
    have := (List.getElem?_eq_some_iff.1 hj).1
    rwa [bv_length] at this
  rw [Addr.add_lit, cell_of h, rm_from L a j ha hl hL, ← hj]
  simp [bv, hl]
/-- bytes of one's own, as a string -/
theorem conv_own {w : World} {base : Nat} {v : Value} {L : List Nat} (h : w.ownsRow base 5 1 v L.length (bv L)) (hn : L ≠ []) :
    (convert 71 9 v).run Try.prog w = .ok (.string (bs L)) w := by
  rcases h.2 with ⟨_, h0⟩ | ⟨g, cap, cur, rfl, _, hg, _, _, hcs, htk⟩
  · exact absurd (List.eq_nil_of_length_eq_zero h0) hn
  · have := run_convert_bytes_back (P := Try.prog) w 71 9 5 ⟨g, 0, none⟩ cap (L.map fun b => UInt8.ofNat b) Try.underlying71 Try.underlying5 Try.underlying9 (fun j hj => by
      have hj' : j < L.length := by simpa using hj
      rw [Addr.add_lit, Nat.zero_add, cell_of hg]
      have e : (cur.toList.take (L.length * 1))[j]? = (bv L)[j]? := by rw [htk]
      rw [List.getElem?_take, if_pos (by omega)] at e
      rw [← Array.getElem?_toList, e]
      simp [bv, hj'])
    rw [List.length_map] at this
    exact this

set_option maxRecDepth 100000 in
set_option maxHeartbeats 1600000 in
theorem putlist_any (oa : Option Addr) (l : List Int) (c : Nat) (w : World) (hA : At w oa l) (hl : l.length ≤ 2000) :
    Calls Try.prog 69 #[.slice oa l.length c] w fun r w' => r = .returned (bif l.all okR then .tuple #[.string (bs (plist l)), .int .i64 0] else .tuple #[.string (bs []), .int .i64 1]) ∧ Below w.heap.size w w' := by
  have HA := hide hA
  clear hA
  obtain ⟨i0, hi, hz0, hz1, hz2⟩ := info_parts info_byte
  have INF := hide (And.intro hi (And.intro hz0 (And.intro hz1 hz2)))
  clear hi hz0 hz1 hz2
  go_enter Try.func69, Try.ntmps69
  go_wp2_with fail
  refine (spell_at l.length (by omega) _).mono ?_
  rintro r w1 ⟨a, rfl, ha, b1⟩
  have H2 := hide (heap_new w1 (.cells (rm []) 134))
  have hsz : (rm (spl l.length)).size = 7 := rm_size _ (by have := spl_len l.length; omega)
  have SZ : Hid ((Try.prog.info? 134).map (·.size) = some (rm (spl l.length)).size) := by show _ = _; rw [size_room, hsz]
  have SE : Hid ((rm []).size = (rm (spl l.length)).size) := hsz.symm
  have SR := hide (room_src (setRow_heap _ _ _ (rm (spl l.length)) _ _ H2.out) ha (spl_lt _))
  have HB := hide (btr b1 (by rw [setRow_new]; exact below_alloc _ _ : Below w1.heap.size w1 ((w1.alloc (.cells (rm []) 134)).setRow w1.heap.size (rm (spl l.length)))))
  have h6 : a < 7 := by have := spl_len l.length; omega
  have HAA := hide ha
  clear hsz ha b1
  have sr := slice_room w1.heap.size a h6
  go_wp2_with (first | (refine wpList_store_row rfl 134 _ _ rfl _ _ rfl rfl 134 _ H2.out SZ.out SE.out (rm_one _) ?_) | (at_builtin; refine wpList_append_own _ rfl _ _ 71 rfl w.heap.size 5 i0 (.int .u8 0) 1 1 Try.underlying71 INF.out.1 INF.out.2.1 INF.out.2.2.1 INF.out.2.2.2 rfl (by decide) _ 0 [] rfl (World.ownsRow_nil _ _ _ _) ⟨w1.heap.size, a, none⟩ (7 - a) (7 - a) (bv (spl l.length)) rfl ?c0 SR.out (bv_one _) ?c3 ?c4 HB.out.size ?_))
  case c0 => rw [bv_length]; have := HAA.out; omega
  case c3 => unfold maxLen; omega
  case c4 => omega
  intro v w2 hown hgrow _
  have OW : Hid (w2.ownsRow w.heap.size 5 1 v (spl l.length).length (bv (spl l.length))) := by
    show World.ownsRow _ _ _ _ _ _ _
    rw [show (spl l.length).length = 0 + (7 - a) by have := HAA.out; omega]
    simpa using hown
  have BL : Hid (Below w.heap.size w w2) := HB.out.grown hgrow HB.out.size (fun x hx => by simp [Value.ownBlock] at hx)
  clear hown hgrow sr H2 SZ SE SR HB HAA h6
  go_wp2_with fail
  go_loopw [6, 22] (fun v i wr => ∃ k : Nat, k ≤ l.length ∧ i = .int .i64 (k : Int) ∧ (∀ j, j < k → okR (nth l j) = true) ∧ wr.ownsRow w.heap.size 5 1 v (ppre l k).length (bv (ppre l k)) ∧ Below w.heap.size w wr) (fun _ i _ => l.length - (intOf i).toNat)
  case atStart => exact ⟨0, Nat.zero_le _, rfl, fun j hj => absurd hj (Nat.not_lt_zero _), by simpa [ppre, pls] using OW.out, BL.out⟩
  case round =>
    clear OW BL
    obtain ⟨k, hk, rfl, hall, hown, hbl⟩ := hrel
    have HK := hide hall
    have OW := hide hown
    have BL := hide hbl
    clear hall hown hbl
    by_cases hlt : k < l.length
    · have hlt' : decide ((k : Int) < (l.length : Int)) = true := by simp; omega
      obtain ⟨b', off, rfl, hc⟩ := (HA.out.below BL.out) k hlt
      cases hok : okR (nth l k)
      · have HO := hide hok
        clear hok
        go_wp2_with (go_at_call 77; refine (isNumber_is _ false HO.out _).mono ?_; rintro r w' ⟨rfl, rfl⟩)
        go_ret2
        exact ⟨by rw [all_not k hlt HO.out]; rfl, BL.out⟩
      · have HO := hide hok
        obtain ⟨h0, h1⟩ := (okR_iff _).1 hok
        obtain ⟨m, hm⟩ := Int.eq_ofNat_of_zero_le h0
        have PS := hide (ppre_succ l k hlt)
        rw [hm] at hc h1 HO
        have hm1 : m ≤ 1099511627776 := by omega
        rw [hm] at PS
        have HM := hide hm
        clear hok h0 h1 hm
        go_wp2_with (go_at_call 77; refine (isNumber_is _ true HO.out _).mono ?_; rintro r w' ⟨rfl, hw⟩)
        subst hw
        refine (spell_at m hm1 _).mono ?_
        rintro r w3 ⟨a3, rfl, ha3, b3⟩
        have H3 := hide (heap_new w3 (.cells (rm []) 134))
        have hsz : (rm (spl m)).size = 7 := rm_size _ (by have := spl_len m; omega)
        have SZ3 : Hid ((Try.prog.info? 134).map (·.size) = some (rm (spl m)).size) := by show _ = _; rw [size_room, hsz]
        have SE3 : Hid ((rm []).size = (rm (spl m)).size) := hsz.symm
        have SR3 := hide (room_src (setRow_heap _ _ _ (rm (spl m)) _ _ H3.out) ha3 (spl_lt _))
        have bb3 : Below w3.heap.size w3 ((w3.alloc (.cells (rm []) 134)).setRow w3.heap.size (rm (spl m))) := by rw [setRow_new]; exact below_alloc _ _
        have HB3 := hide (btr (btr BL.out b3) bb3)
        have OW3 := hide (owns_below OW.out (btr b3 bb3))
        have h6 : a3 < 7 := by have := spl_len m; omega
        have HA3 := hide ha3
        have hpl := ppre_len l k (by omega)
        clear hsz ha3 b3 bb3
        have sr := slice_room w3.heap.size a3 h6
        go_wp2_with (first | (refine wpList_store_row rfl 134 _ _ rfl _ _ rfl rfl 134 _ H3.out SZ3.out SE3.out (rm_one _) ?_) | (at_builtin; refine wpList_append_own _ rfl _ _ 71 rfl w.heap.size 5 i0 (.int .u8 0) 1 1 Try.underlying71 INF.out.1 INF.out.2.1 INF.out.2.2.1 INF.out.2.2.2 rfl (by decide) _ _ _ rfl OW3.out ⟨w3.heap.size, a3, none⟩ (7 - a3) (7 - a3) (bv (spl m)) rfl ?c0 SR3.out (bv_one _) ?c3 ?c4 HB3.out.size ?_))
        case c0 => rw [bv_length]; have := HA3.out; omega
        case c3 => unfold maxLen; omega
        case c4 => omega
        intro v' w4 hown' hgrow _
        have BL4 : Hid (Below w.heap.size w w4) := HB3.out.grown hgrow HB3.out.size (fun x hx => (OW3.out.lt x hx).1)
        have OW4 : Hid (w4.ownsRow w.heap.size 5 1 v' (ppre l (k + 1)).length (bv (ppre l (k + 1)))) := by
          show World.ownsRow _ _ _ _ _ _ _
          rw [PS.out, bv_append, List.length_append, Int.toNat_natCast, show (spl m).length = 7 - a3 by have := HA3.out; omega]
          exact hown'
        clear hown' hgrow sr
        go_wp2_with fail
        go_roundw
        case rel => exact ⟨k + 1, by omega, by go_num, fun j hj => by
            by_cases e : j = k
            · subst e; rw [HM.out]; exact HO.out
            · exact HK.out j (by omega), OW4.out, BL4.out⟩
        case measure => simp [intOf]; omega
    · have hlt' : decide ((k : Int) < (l.length : Int)) = false := by simp; omega
      have e : k = l.length := by omega
      subst e
      rw [ppre_all] at OW
      have cv := conv_own OW.out (by
        intro q
        have := (ppre_len l l.length (Nat.le_refl _)).1
        rw [ppre_all, q] at this
        simp at this)
      go_wp2_with fail
      go_ret2
      exact ⟨by rw [all_ok HK.out]; rfl, BL.out⟩
end Re
end Go.Proofs.Ytocmdehpbipmlaa
/- The reference's PutList, over this seat's program. -/
namespace Go.Proofs.Ytocmdehpbipmlaa
open Go.ChangeShapes Go.WideShapes Go.ChangeAt Go.RowKit
namespace Re
open Ba

theorem okR_no {n : Nat} (h : ¬ n ≤ 1099511627776) : okR (n : Int) = false := by
  have : ¬ (okR (n : Int) = true) := by rw [okR_iff]; omega
  simpa using this

set_option maxRecDepth 100000 in
set_option maxHeartbeats 1600000 in
theorem rputlist_any (oa : Option Addr) (l : List Int) (c : Nat) (w : World) (hA : At w oa l) (hl : l.length ≤ 2000) :
    Calls Try.prog 41 #[.slice oa l.length c] w fun r w' => r = .returned (bif l.all okR then .tuple #[.string (bs (plist l)), .int .i64 0] else .tuple #[.string (bs []), .int .i64 1]) ∧ Below w.heap.size w w' := by
  have HA := hide hA
  clear hA
  go_enter Try.func41, Try.ntmps41
  go_wp2_with fail
  refine (rput_ok l.length (by omega) _).mono ?_
  rintro r w1 ⟨rfl, b1⟩
  have B1 := hide b1
  clear b1
  go_wp2_with fail
  go_loopw [4, 18] (fun o i wr => ∃ k : Nat, k ≤ l.length ∧ i = .int .i64 (k : Int) ∧ (∀ j, j < k → okR (nth l j) = true) ∧ o = .string (bs (ppre l k)) ∧ Below w.heap.size w wr) (fun _ i _ => l.length - (intOf i).toNat)
  case atStart => exact ⟨0, Nat.zero_le _, rfl, fun j hj => absurd hj (Nat.not_lt_zero _), by simp [ppre, pls], B1.out⟩
  case round =>
    clear B1
    obtain ⟨k, hk, rfl, hall, rfl, hbl⟩ := hrel
    have HK := hide hall
    have BL := hide hbl
    clear hall hbl
    by_cases hlt : k < l.length
    · have hlt' : decide ((k : Int) < (l.length : Int)) = true := by simp; omega
      obtain ⟨b', off, rfl, hc⟩ := (HA.out.below BL.out) k hlt
      cases hok : okR (nth l k)
      · have HO := hide hok
        clear hok
        go_wp2_with fail
        refine (rput_no _ HO.out _).mono ?_
        rintro r w2 ⟨rfl, hw⟩
        subst hw
        go_wp2_with fail
        go_ret2
        exact ⟨by rw [all_not k hlt HO.out]; rfl, BL.out⟩
      · have HO := hide hok
        obtain ⟨h0, h1⟩ := (okR_iff _).1 hok
        obtain ⟨m, hm⟩ := Int.eq_ofNat_of_zero_le h0
        have PS := ppre_succ l k hlt
        rw [hm] at hc h1 HO
        have hm1 : m ≤ 1099511627776 := by omega
        rw [hm, Int.toNat_natCast] at PS
        have HM := hide hm
        have ad : ∀ w, (Op.stringOp .add (bs (ppre l k)) (bs (spl m))).run Try.prog w = .ok (.string (bs (ppre l (k + 1)))) w := fun w => by
          have h2 := ppre_len l k (by omega)
          have h3 := spl_len m
          rw [add_str _ _ w (by rw [bs_size, bs_size]; omega), bs_append, PS]
        clear hok h0 h1 hm PS
        go_wp2_with fail
        refine (rput_ok m hm1 _).mono ?_
        rintro r w2 ⟨rfl, b2⟩
        have B2 := hide (btr BL.out b2)
        clear b2
        go_wp2_with fail
        go_roundw
        case rel => exact ⟨k + 1, by omega, by go_num, fun j hj => by
            by_cases e : j = k
            · subst e; rw [HM.out]; exact HO.out
            · exact HK.out j (by omega), rfl, B2.out⟩
        case measure => simp [intOf]; omega
    · have hlt' : decide ((k : Int) < (l.length : Int)) = false := by simp; omega
      have e : k = l.length := by omega
      subst e
      rw [ppre_all]
      go_wp2_with fail
      go_ret2
      exact ⟨by rw [all_ok HK.out]; rfl, BL.out⟩
end Re
end Go.Proofs.Ytocmdehpbipmlaa
/- Package reel: TakeList, over this seat's program. -/
namespace Go.Proofs.Ytocmdehpbipmlaa
open Go.ChangeShapes Go.WideShapes Go.ChangeAt Go.RowKit
namespace Re
open Ba

theorem tk_le {L : List Nat} {n k : Nat} (h : tk L = some (n, k)) : 1 ≤ k ∧ k ≤ L.length := by
  cases L with
  | nil => simp [tk] at h
  | cons b t =>
    simp only [tk] at h
    split at h
    · simp at h
      obtain ⟨_, rfl⟩ := h
      simp
    · split at h
      · rename_i q
        simp at h
        obtain ⟨_, rfl⟩ := h
        simp
        omega
      · simp at h
theorem tk_bound {L : List Nat} {n k : Nat} (h : tk L = some (n, k)) : n ≤ 1099511627776 := by
  cases L with
  | nil => simp [tk] at h
  | cons b t =>
    simp only [tk] at h
    split at h
    · simp at h
      obtain ⟨rfl, _⟩ := h
      omega
    · split at h
      · rename_i q
        simp only [Option.some.injEq, Prod.mk.injEq] at h
        obtain ⟨rfl, _⟩ := h
        have := q.2.2.2
        by_cases e : vl (t.take (b - 240)) ≤ 1099511627776
        · exact e
        · rw [szn_hi _ e] at this; omega
      · simp at h
/-- the first i numbers with which bytes begin, and how many bytes they have -/
def tst (L : List Nat) : Nat → Option (List Int × Nat)
  | 0 => some ([], 0)
  | i + 1 => match tst L i with
    | none => none
    | some (xs, o) => match tk (L.drop o) with
      | none => none
      | some (x, k) => some (xs ++ [(x : Int)], o + k)
theorem tst_some {L : List Nat} : ∀ {i : Nat} {xs : List Int} {o : Nat}, tst L i = some (xs, o) → xs.length = i ∧ i ≤ o ∧ o ≤ L.length
  | 0, xs, o, h => by
    simp [tst] at h
    obtain ⟨rfl, rfl⟩ := h
    simp
  | i + 1, xs, o, h => by
    rw [tst] at h
    cases hi : tst L i with
    | none => rw [hi] at h; simp at h
    | some p =>
      obtain ⟨ys, q⟩ := p
      rw [hi] at h
      have ih := tst_some hi
      simp only at h
      cases ht : tk (L.drop q) with
      | none => rw [ht] at h; simp at h
      | some z =>
        obtain ⟨x, k⟩ := z
        rw [ht] at h
        simp at h
        obtain ⟨rfl, rfl⟩ := h
        have := tk_le ht
        simp at this ⊢
        omega
theorem tst_next {L : List Nat} {i o x k : Nat} {xs : List Int} (h : tst L i = some (xs, o)) (ht : tk (L.drop o) = some (x, k)) : tst L (i + 1) = some (xs ++ [(x : Int)], o + k) := by
  rw [tst, h]; simp only [ht]
theorem tst_stop {L : List Nat} {i o : Nat} {xs : List Int} (h : tst L i = some (xs, o)) (ht : tk (L.drop o) = none) : ∀ n, i < n → tst L n = none := by
  intro n
  induction n with
  | zero => intro q; omega
  | succ n ih =>
    intro q
    by_cases e : i = n
    · subst e
      rw [tst, h]; simp only [ht]
    · rw [tst, ih (by omega)]

theorem run_mk (w : World) (n : Nat) (hn : n ≤ 5000000) : (Instr.makeSlice 36 (.int .i64 (n : Int)) (.int .i64 (n : Int))).run Try.prog w = .ok (.slice (some ⟨w.heap.size, 0, none⟩) n n) (w.alloc (.cells (madeCells #[.int .i64 0] n) 3)) := by
  obtain ⟨i0, hi, hz0, hz1, hz2⟩ := info_parts info_int
  have := run_make (P := Try.prog) w 36 3 i0 (.int .i64 0) Try.underlying36 hi hz0 .i64 .i64 n n (by omega) (Int.le_refl _) (by rw [hz2]; omega) (by omega)
  rw [hz1] at this
  simpa [Value.cells] using this

/-- numbers, and noughts behind them -/
def fillc (xs : List Int) (n : Nat) : Array Value := (xs.map (Value.int .i64) ++ List.replicate (n - xs.length) (Value.int .i64 0)).toArray
theorem fillc_nil (n : Nat) : madeCells #[Value.int .i64 0] n = fillc [] n := by
  apply Array.toList_inj.1
  rw [toList_madeCells_one]
  simp [fillc]
theorem fillc_set (xs : List Int) (n : Nat) (x : Int) (h : xs.length < n) : (fillc xs n).setIfInBounds xs.length (.int .i64 x) = fillc (xs ++ [x]) n := by
  apply Array.toList_inj.1
  obtain ⟨q, hq⟩ : ∃ q, n - xs.length = q + 1 := ⟨n - xs.length - 1, by omega⟩
  have e : n - (xs ++ [x]).length = q := by simp; omega
  simp only [fillc, hq, e, List.replicate_succ, Array.toList_setIfInBounds, List.map_append]
  simp
theorem fillc_at (xs : List Int) (n k : Nat) (h : k < n) : ∃ x : Int, (fillc xs n)[k]? = some (.int .i64 x) := by
  by_cases hk : k < xs.length
  · exact ⟨xs[k], by simp [fillc, List.getElem?_append, hk]⟩
  · refine ⟨0, ?_⟩
    have h2 : k - xs.length < n - xs.length := by omega
    simp only [fillc, List.getElem?_toArray]
    rw [List.getElem?_append_right (by simp; omega), List.length_map, List.getElem?_replicate, if_pos h2]
theorem fillc_row (xs : List Int) (n : Nat) (h : xs.length = n) : fillc xs n = row xs := by simp [fillc, row, h]
theorem At.of {w : World} {b : Nat} {xs : List Int} {t : TypeId} {fr : Nat × Nat} (h : w.heap[b]? = some (.cells (row xs) t fr)) : At w (some ⟨b, 0, none⟩) xs := by
  intro k hk
  refine ⟨b, 0, rfl, ?_⟩
  rw [Nat.zero_add, cell_of h, row_at xs k hk]

/-- the list with which bytes begin, and how many are its own; or the error -/
def tl (L : List Nat) (most : Int) : Except Int (List Int × Nat) :=
  match tk L with
  | none => .error 4
  | some (n, k) => if most < (n : Int) then .error 2 else match tst (L.drop k) n with
    | none => .error 4
    | some (xs, o) => .ok (xs, k + o)
theorem nbs_sfx (s : ByteArray) (a : Nat) : nbs (s.extract a s.size) = (nbs s).drop a := by
  rw [nbs_extract, ← nbs_length, List.take_length]
theorem sfx_sfx (s : ByteArray) (a b : Nat) : (s.extract a s.size).extract b (s.extract a s.size).size = s.extract (a + b) s.size := by
  apply nbs_inj
  rw [nbs_sfx, nbs_sfx, nbs_sfx, List.drop_drop]

set_option maxHeartbeats 800000 in
theorem takelist_none (s : ByteArray) (most : Int) (w : World) (h : tk (nbs s) = none) :
    Calls Try.prog 73 #[.string s, .int .i64 most] w fun r w' => r = .returned (.tuple #[.slice none 0 0, .string (bs []), .int .i64 4]) ∧ Below w.heap.size w w' := by
  have H := hide h
  clear h
  go_enter Try.func73, Try.ntmps73
  go_wp2_with fail
  refine (take_none s H.out _).mono ?_
  rintro r w1 ⟨rfl, b1⟩
  have B1 := hide b1
  clear b1
  go_wp2_with fail
  go_ret3
  exact ⟨rfl, B1.out⟩

set_option maxHeartbeats 800000 in
theorem takelist_long (s : ByteArray) (most : Int) (n k : Nat) (w : World) (h : tk (nbs s) = some (n, k)) (hm : most < (n : Int)) :
    Calls Try.prog 73 #[.string s, .int .i64 most] w fun r w' => r = .returned (.tuple #[.slice none 0 0, .string (bs []), .int .i64 2]) ∧ Below w.heap.size w w' := by
  have H := hide h
  have hd : decide (most < (n : Int)) = true := by simpa using hm
  clear h hm
  go_enter Try.func73, Try.ntmps73
  go_wp2_with fail
  refine (take_some s n k H.out _).mono ?_
  rintro r w1 ⟨rfl, b1⟩
  have B1 := hide b1
  clear b1
  go_wp2_with fail
  go_ret3
  exact ⟨rfl, B1.out⟩

set_option maxHeartbeats 800000 in
theorem takelist_short (s : ByteArray) (most : Int) (n k : Nat) (w : World) (h : tk (nbs s) = some (n, k)) (hm : (n : Int) ≤ most) (hn : s.size - k < n) :
    Calls Try.prog 73 #[.string s, .int .i64 most] w fun r w' => r = .returned (.tuple #[.slice none 0 0, .string (bs []), .int .i64 4]) ∧ Below w.heap.size w w' := by
  have H := hide h
  have hd : decide (most < (n : Int)) = false := by simp; omega
  have hex : (s.extract k s.size).size = s.size - k := by rw [← nbs_length, nbs_sfx, List.length_drop, nbs_length]
  have hd2 : decide (s.size - k < n) = true := by simpa using hn
  have hd3 : decide (((s.size - k : Nat) : Int) < (n : Int)) = true := by simp; omega
  clear h hm
  go_enter Try.func73, Try.ntmps73
  go_wp2_with fail
  refine (take_some s n k H.out _).mono ?_
  rintro r w1 ⟨rfl, b1⟩
  have B1 := hide b1
  clear b1
  go_wp2_with fail
  go_ret3
  exact ⟨rfl, B1.out⟩

set_option maxRecDepth 100000 in
set_option maxHeartbeats 1600000 in
theorem takelist_loop (s : ByteArray) (most : Int) (n k : Nat) (w : World) (h : tk (nbs s) = some (n, k)) (hm : (n : Int) ≤ most) (hn : n ≤ s.size - k) (hs : s.size ≤ 5000000) :
    Calls Try.prog 73 #[.string s, .int .i64 most] w fun r w' => ((tst ((nbs s).drop k) n = none ∧ r = .returned (.tuple #[.slice none 0 0, .string (bs []), .int .i64 4])) ∨ ∃ xs o b, tst ((nbs s).drop k) n = some (xs, o) ∧ r = .returned (.tuple #[.slice (some ⟨b, 0, none⟩) n n, .string (s.extract (k + o) s.size), .int .i64 0]) ∧ At w' (some ⟨b, 0, none⟩) xs ∧ w.heap.size ≤ b) ∧ Below w.heap.size w w' := by
  have H := hide h
  have hk := tk_le h
  rw [nbs_length] at hk
  have hd : decide (most < (n : Int)) = false := by simp; omega
  have hex : (s.extract k s.size).size = s.size - k := by rw [← nbs_length, nbs_sfx, List.length_drop, nbs_length]
  have hd2 : decide (s.size - k < n) = false := by simp; omega
  have hd3 : decide (((s.size - k : Nat) : Int) < (n : Int)) = false := by simp; omega
  clear h hm
  go_enter Try.func73, Try.ntmps73
  go_wp2_with fail
  refine (take_some s n k H.out _).mono ?_
  rintro r w1 ⟨rfl, b1⟩
  have B1 := hide b1
  have mk := run_mk w1 n (by omega)
  have HM := hide (heap_new w1 (.cells (madeCells #[.int .i64 0] n) 3))
  have BM := hide (btr b1 (below_alloc w1 (.cells (madeCells #[.int .i64 0] n) 3)))
  have hw1 := b1.size
  clear b1
  go_wp2_with fail
  generalize w1.alloc (.cells (madeCells #[.int .i64 0] n) 3) = W at HM BM ⊢
  go_loopw [0, 8, 31] (fun t e i wr => ∃ (j o : Nat) (xs : List Int), j ≤ n ∧ i = .int .i64 (j : Int) ∧ e = .int .i64 0 ∧ t = .string (s.extract (k + o) s.size) ∧ tst ((nbs s).drop k) j = some (xs, o) ∧ wr.heap[w1.heap.size]? = some (.cells (fillc xs n) 3 (0, 0)) ∧ Below w.heap.size w wr) (fun _ _ i _ => n - (intOf i).toNat)
  case atStart => exact ⟨0, 0, [], Nat.zero_le _, rfl, rfl, rfl, rfl, by rw [← fillc_nil]; exact HM.out, BM.out⟩
  case round =>
    clear HM BM mk
    obtain ⟨j, o, xs, hj, rfl, rfl, rfl, ht, hh, hb⟩ := hrel
    have HT := hide ht
    have HH := hide hh
    have HB := hide hb
    clear ht hh hb
    by_cases hjn : j < n
    · have hjn' : decide ((j : Int) < (n : Int)) = true := by simp; omega
      have xl := (tst_some HT.out).1
      cases htk : tk (((nbs s).drop k).drop o) with
      | none =>
        have TK := hide htk
        clear htk
        go_wp2_with fail
        refine (take_none (s.extract (k + o) s.size) (by rw [nbs_sfx, ← List.drop_drop]; exact TK.out) _).mono ?_
        rintro r w2 ⟨rfl, b2⟩
        have H2 := hide (heap_below HH.out b2)
        have B2 := hide (btr HB.out b2)
        obtain ⟨x0, hx0⟩ := fillc_at xs n j hjn
        have c0 := (cell_of H2.out j).trans hx0
        have f0 := frozen_of H2.out j
        clear b2 hx0
        go_wp2_with fail
        go_ret3
        exact ⟨.inl ⟨tst_stop HT.out TK.out n hjn, rfl⟩, B2.out.setCell (by omega) _⟩
      | some p =>
        obtain ⟨x, q⟩ := p
        have TK := hide htk
        clear htk
        go_wp2_with fail
        refine (take_some (s.extract (k + o) s.size) x q (by rw [nbs_sfx, ← List.drop_drop]; exact TK.out) _).mono ?_
        rw [sfx_sfx]
        rintro r w2 ⟨rfl, b2⟩
        have H2 := hide (heap_below HH.out b2)
        have B2 := hide (btr HB.out b2)
        obtain ⟨x0, hx0⟩ := fillc_at xs n j hjn
        have c0 := (cell_of H2.out j).trans hx0
        have f0 := frozen_of H2.out j
        clear b2 hx0
        go_wp2_with fail
        go_roundw
        case rel => exact ⟨j + 1, o + q, xs ++ [(x : Int)], by omega, by go_num, rfl, by rw [Nat.add_assoc], tst_next HT.out TK.out, by
            rw [Ba.heap_setCell_same H2.out, ← xl, fillc_set xs n x (by omega)], B2.out.setCell (by omega) _⟩
        case measure => simp [intOf]; omega
    · have hjn' : decide ((j : Int) < (n : Int)) = false := by simp; omega
      have e : j = n := by omega
      subst e
      have xl := (tst_some HT.out).1
      go_wp2_with fail
      go_ret3
      exact ⟨.inr ⟨xs, o, w1.heap.size, HT.out, rfl, At.of (by rw [← fillc_row xs j xl]; exact HH.out), by omega⟩, HB.out⟩

theorem takelist_err (s : ByteArray) (most e : Int) (w : World) (h : tl (nbs s) most = .error e) (hs : s.size ≤ 5000000) :
    Calls Try.prog 73 #[.string s, .int .i64 most] w fun r w' => r = .returned (.tuple #[.slice none 0 0, .string (bs []), .int .i64 e]) ∧ Below w.heap.size w w' := by
  unfold tl at h
  cases ht : tk (nbs s) with
  | none =>
    rw [ht] at h
    simp at h
    subst h
    exact takelist_none s most w ht
  | some p =>
    obtain ⟨n, k⟩ := p
    rw [ht] at h
    simp only at h
    by_cases hm : most < (n : Int)
    · rw [if_pos hm] at h
      simp at h
      subst h
      exact takelist_long s most n k w ht hm
    · rw [if_neg hm] at h
      cases hq : tst ((nbs s).drop k) n with
      | some p => rw [hq] at h; simp at h
      | none =>
        rw [hq] at h
        simp at h
        subst h
        by_cases hn : n ≤ s.size - k
        · refine (takelist_loop s most n k w ht (by omega) hn hs).mono ?_
          rintro r w' ⟨⟨_, rfl⟩ | ⟨xs, o, b, q, _⟩, hb⟩
          · exact ⟨rfl, hb⟩
          · rw [hq] at q; cases q
        · exact takelist_short s most n k w ht (by omega) (by omega)
theorem takelist_ok_f (s : ByteArray) (most : Int) (xs : List Int) (z : Nat) (w : World) (h : tl (nbs s) most = .ok (xs, z)) (hs : s.size ≤ 5000000) :
    Calls Try.prog 73 #[.string s, .int .i64 most] w fun r w' => ∃ b, r = .returned (.tuple #[.slice (some ⟨b, 0, none⟩) xs.length xs.length, .string (s.extract z s.size), .int .i64 0]) ∧ At w' (some ⟨b, 0, none⟩) xs ∧ w.heap.size ≤ b ∧ Below w.heap.size w w' := by
  unfold tl at h
  cases ht : tk (nbs s) with
  | none => rw [ht] at h; simp at h
  | some p =>
    obtain ⟨n, k⟩ := p
    rw [ht] at h
    simp only at h
    by_cases hm : most < (n : Int)
    · rw [if_pos hm] at h; simp at h
    · rw [if_neg hm] at h
      cases hq : tst ((nbs s).drop k) n with
      | none => rw [hq] at h; simp at h
      | some p =>
        obtain ⟨ys, o⟩ := p
        rw [hq] at h
        simp at h
        obtain ⟨rfl, rfl⟩ := h
        have hl := tst_some hq
        rw [List.length_drop, nbs_length] at hl
        refine (takelist_loop s most n k w ht (by omega) (by omega) hs).mono ?_
        rintro r w' ⟨⟨q, _⟩ | ⟨xs, o', b, q, rfl, hA, hF⟩, hb⟩
        · rw [hq] at q; cases q
        · rw [hq] at q
          simp at q
          obtain ⟨rfl, rfl⟩ := q
          rw [hl.1]
          exact ⟨b, rfl, hA, hF, hb⟩
theorem takelist_ok (s : ByteArray) (most : Int) (xs : List Int) (z : Nat) (w : World) (h : tl (nbs s) most = .ok (xs, z)) (hs : s.size ≤ 5000000) :
    Calls Try.prog 73 #[.string s, .int .i64 most] w fun r w' => ∃ b, r = .returned (.tuple #[.slice (some ⟨b, 0, none⟩) xs.length xs.length, .string (s.extract z s.size), .int .i64 0]) ∧ At w' (some ⟨b, 0, none⟩) xs ∧ Below w.heap.size w w' := by
  refine (takelist_ok_f s most xs z w h hs).mono ?_
  rintro r w' ⟨b, h1, h2, _, h3⟩
  exact ⟨b, h1, h2, h3⟩
theorem tl_size {L : List Nat} {most : Int} {xs : List Int} {z : Nat} (h : tl L most = .ok (xs, z)) : xs.length < z ∧ z ≤ L.length := by
  unfold tl at h
  cases ht : tk L with
  | none => rw [ht] at h; simp at h
  | some p =>
    obtain ⟨n, k⟩ := p
    rw [ht] at h
    simp only at h
    by_cases hm : most < (n : Int)
    · rw [if_pos hm] at h; simp at h
    · rw [if_neg hm] at h
      cases hq : tst (L.drop k) n with
      | none => rw [hq] at h; simp at h
      | some p =>
        obtain ⟨ys, o⟩ := p
        rw [hq] at h
        simp at h
        obtain ⟨rfl, rfl⟩ := h
        have hl := tst_some hq
        have hk := tk_le ht
        rw [List.length_drop] at hl
        omega
end Re
end Go.Proofs.Ytocmdehpbipmlaa
/- The reference's TakeList, over this seat's program. -/
namespace Go.Proofs.Ytocmdehpbipmlaa
open Go.ChangeShapes Go.WideShapes Go.ChangeAt Go.RowKit
namespace Re
open Ba

theorem size_list : (Try.prog.info? 129).map (·.size) = some 2 := by kernel_rfl
theorem loadVar_list {w : World} {b : Nat} {c : Array Value} {t : TypeId} (h : w.heap[b]? = some (.cells c t (0, 0))) (hc : c.size = 2) : (loadVar 129 ⟨b, 0, none⟩).run Try.prog w = .ok (.agg c) w :=
  run_loadVar_row w b t _ _ _ _ h Try.underlying129 rfl (by rw [size_list, hc])

theorem owns_setCell {w : World} {base : Nat} {e : TypeId} {size : Nat} {v : Value} {n : Nat} {xs : List Value} (h : w.ownsRow base e size v n xs) (b i : Nat) (hb : b < base) (u : Value) : (w.setCell ⟨b, i, none⟩ u).ownsRow base e size v n xs := by
  refine ⟨h.1, ?_⟩
  rcases h.2 with q | ⟨g, cap, cur, q1, q2, q3, q4⟩
  · exact .inl q
  · exact .inr ⟨g, cap, cur, q1, q2, (Below.heap_setCell _ _ _ _ (by show g ≠ b; omega)).trans q3, q4⟩
theorem heap_lt {w : World} {b : Nat} {o : Obj} (h : w.heap[b]? = some o) : b < w.heap.size := by
  rcases Nat.lt_or_ge b w.heap.size with q | q
  · exact q
  · rw [Array.getElem?_eq_none q] at h; cases h

/-- what the reference's loop keeps: the answer's room R, the head's at A, what it has so far at A + 1 -/
structure LK (w wr : World) (R A : Nat) (n k : Nat) (v : Value) (z : Nat) (xs : List Int) : Prop where
  res : wr.heap[R]? = some (.cells #[.slice none 0 0, .int .i64 0] 129 (0, 0))
  head : wr.heap[A]? = some (.cells #[.int .i64 (n : Int), .int .i64 (k : Int)] 113 (0, 0))
  out : wr.heap[A + 1]? = some (.cells #[v, .int .i64 (z : Int)] 129 (0, 0))
  own : wr.ownsRow (A + 2) 3 1 v xs.length (xs.map (Value.int .i64))
  lt : R < A
  ge : w.heap.size ≤ R
  bel : Below w.heap.size w wr
theorem LK.below {w wr wr' : World} {R A n k z : Nat} {v : Value} {xs : List Int} (h : LK w wr R A n k v z xs) (hb : Below wr.heap.size wr wr') : LK w wr' R A n k v z xs :=
  ⟨heap_below h.res hb, heap_below h.head hb, heap_below h.out hb, owns_below h.own hb, h.lt, h.ge, btr h.bel hb⟩
theorem LK.grown {w wr wr' : World} {R A n k z : Nat} {v v' : Value} {xs xs' : List Int} (h : LK w wr R A n k v z xs) (hg : wr.grownBy wr' v.ownBlock) (ho : wr'.ownsRow (A + 2) 3 1 v' xs'.length (xs'.map (Value.int .i64))) (z' : Nat) :
    LK w ((wr'.setCell ⟨A + 1, 0, none⟩ v').setCell ⟨A + 1, 1, none⟩ (.int .i64 (z' : Int))) R A n k v' z' xs' := by
  have hw := heap_lt h.out
  have hl := h.lt
  have hge := h.ge
  have ne : ∀ b, b < A + 2 → some b ≠ v.ownBlock := fun b hb e => by
    have := (h.own.lt b e.symm).1
    omega
  have e1 := (hg.block R (by omega) (ne R (by omega))).trans h.res
  have e2 := (hg.block A (by omega) (ne A (by omega))).trans h.head
  have e3 := (hg.block (A + 1) (by omega) (ne (A + 1) (by omega))).trans h.out
  refine ⟨?_, ?_, two_set e3 _ _, owns_setCell (owns_setCell ho _ _ (by omega) _) _ _ (by omega) _, hl, hge, ?_⟩
  · rw [Below.heap_setCell _ _ _ _ (by show R ≠ A + 1; omega), Below.heap_setCell _ _ _ _ (by show R ≠ A + 1; omega)]
    exact e1
  · rw [Below.heap_setCell _ _ _ _ (by show A ≠ A + 1; omega), Below.heap_setCell _ _ _ _ (by show A ≠ A + 1; omega)]
    exact e2
  · exact ((h.bel.grown hg h.bel.size (fun x hx => by have := (h.own.lt x hx).1; omega)).setCell (by show w.heap.size ≤ A + 1; omega) _).setCell (by show w.heap.size ≤ A + 1; omega) _

set_option maxRecDepth 100000 in
set_option maxHeartbeats 3200000 in
theorem rtakelist_loop (s : ByteArray) (most : Int) (n k : Nat) (w : World) (h : tk (nbs s) = some (n, k)) (hm : (n : Int) ≤ most) (hs : s.size ≤ 5000000) :
    Calls Try.prog 74 #[.string s, .int .i64 most] w fun r w' => ((tst ((nbs s).drop k) n = none ∧ r = .returned (.tuple #[.agg #[.slice none 0 0, .int .i64 0], .int .i64 4])) ∨ ∃ xs o oa c, tst ((nbs s).drop k) n = some (xs, o) ∧ r = .returned (.tuple #[.agg #[.slice oa n c, .int .i64 ((k + o : Nat) : Int)], .int .i64 0]) ∧ At w' oa xs) ∧ Below w.heap.size w w' := by
  have H := hide h
  have hk := tk_le h
  rw [nbs_length] at hk
  have hd : decide (most < (n : Int)) = false := by simp; omega
  obtain ⟨i0, hi, hz0, hz1, hz2⟩ := info_parts info_int
  have INF := hide (And.intro hi (And.intro hz0 (And.intro hz1 hz2)))
  clear hi hz0 hz1 hz2 h hm
  go_enter Try.func74, Try.ntmps74
  go_wp2_with fail
  refine (rtake_some s n k H.out _).mono ?_
  rintro r w1 ⟨rfl, b1⟩
  have HR := heap_below (heap_new w (.cells #[.slice none 0 0, .int .i64 0] 129)) b1
  have hR := heap_lt HR
  have BT := btr (below_alloc w1 (.cells #[.int .i64 (n : Int), .int .i64 (k : Int)] 113)) (below_alloc (w1.alloc (.cells #[.int .i64 (n : Int), .int .i64 (k : Int)] 113)) (.cells #[.slice none 0 0, .int .i64 (k : Int)] 129))
  have ho := heap_new (w1.alloc (.cells #[.int .i64 (n : Int), .int .i64 (k : Int)] 113)) (.cells #[.slice none 0 0, .int .i64 (k : Int)] 129)
  rw [World.size_alloc] at ho
  have L0 : Hid (LK w ((w1.alloc (.cells #[.int .i64 (n : Int), .int .i64 (k : Int)] 113)).alloc (.cells #[.slice none 0 0, .int .i64 (k : Int)] 129)) w.heap.size w1.heap.size n k (.slice none 0 0) k []) :=
    ⟨heap_below HR BT, heap_below (heap_new _ _) (below_alloc _ _), ho, World.ownsRow_nil _ _ _ _, hR, Nat.le_refl _, btr (btr (below_alloc _ _) b1) BT⟩
  clear b1 HR BT ho
  go_wp2_with fail
  generalize ((w1.alloc (.cells #[.int .i64 (n : Int), .int .i64 (k : Int)] 113)).alloc (.cells #[.slice none 0 0, .int .i64 (k : Int)] 129)) = W at L0 ⊢
  go_loopw [9] (fun i wr => ∃ (j o : Nat) (xs : List Int) (v : Value), j ≤ n ∧ i = .int .i64 (j : Int) ∧ tst ((nbs s).drop k) j = some (xs, o) ∧ LK w wr w.heap.size w1.heap.size n k v (k + o) xs) (fun i _ => n - (intOf i).toNat)
  case atStart => exact ⟨0, 0, [], _, Nat.zero_le _, rfl, rfl, L0.out⟩
  case round =>
    clear L0
    obtain ⟨j, o, xs, v, hj, rfl, ht, hlk⟩ := hrel
    have c2 := cell_of hlk.head 0
    have c3 := cell_of hlk.out 0
    have c4 := cell_of hlk.out 1
    have f3 := frozen_of hlk.out 0
    have f4 := frozen_of hlk.out 1
    simp at c2 c3 c4
    have HT := hide ht
    have LL := hide hlk
    have xl := tst_some ht
    rw [List.length_drop, nbs_length] at xl
    by_cases hjn : j < n
    · have hjn' : decide ((j : Int) < (n : Int)) = true := by simp; omega
      cases htk : tk (((nbs s).drop k).drop o) with
      | none =>
        have TK := hide htk
        clear htk ht hlk
        go_wp2_with fail
        refine (rtake_none (s.extract (k + o) s.size) (by rw [nbs_sfx, ← List.drop_drop]; exact TK.out) _).mono ?_
        rintro r w2 ⟨rfl, b2⟩
        have L2 := hide (LL.out.below b2)
        have r0 := cell_of L2.out.res 0
        have r1 := cell_of L2.out.res 1
        have g0 := frozen_of L2.out.res 0
        have g1 := frozen_of L2.out.res 1
        have rlt := heap_lt L2.out.res
        simp at r0 r1
        clear b2
        go_wp2_with fail
        exact bodyPost_ret (results_row2 Try.results74 _ _ _ _ _ rfl rfl (loadVar_list (heap_below (two_set L2.out.res _ _) (below_alloc _ _)) rfl)) rfl ⟨.inl ⟨tst_stop HT.out TK.out n hjn, rfl⟩, btr ((L2.out.bel.setCell (Nat.le_refl _) _).setCell (Nat.le_refl _) _) (below_alloc _ _)⟩
      | some p =>
        obtain ⟨x, q⟩ := p
        have TK := hide htk
        have hx := tk_bound htk
        have hq := tk_le htk
        rw [List.length_drop, List.length_drop, nbs_length] at hq
        clear htk ht hlk
        go_wp2_with fail
        refine (rtake_some (s.extract (k + o) s.size) x q (by rw [nbs_sfx, ← List.drop_drop]; exact TK.out) _).mono ?_
        rintro r w2 ⟨rfl, b2⟩
        have L2 := hide (LL.out.below b2)
        have o0 := cell_of L2.out.out 0
        have o1 := cell_of L2.out.out 1
        have g0 := frozen_of L2.out.out 0
        have g1 := frozen_of L2.out.out 1
        have olt := heap_lt L2.out.out
        simp at o0 o1
        clear b2
        have L3 := hide (L2.out.below (btr (below_alloc w2 (.cells #[.int .i64 (x : Int), .int .i64 (q : Int)] 113)) (below_alloc (w2.alloc (.cells #[.int .i64 (x : Int), .int .i64 (q : Int)] 113)) (.cells #[.int .i64 (x : Int)] 3))))
        have T3 := hide (heap_below (heap_new w2 (.cells #[.int .i64 (x : Int), .int .i64 (q : Int)] 113)) (below_alloc (w2.alloc (.cells #[.int .i64 (x : Int), .int .i64 (q : Int)] 113)) (.cells #[.int .i64 (x : Int)] 3)))
        have N3 := hide (tst_next HT.out TK.out)
        go_wp2_with (at_builtin; refine wpList_append_own _ rfl _ _ 36 rfl (w1.heap.size + 2) 3 i0 (.int .i64 0) 1 8 Try.underlying36 INF.out.1 INF.out.2.1 INF.out.2.2.1 INF.out.2.2.2 rfl (by decide) _ _ _ rfl L3.out.own ⟨w2.heap.size + 1, 0, none⟩ 1 1 [.int .i64 (x : Int)] rfl rfl ?c1 ?c2 ?c3 ?c4 ?c5 ?_)
        case c1 =>
          intro j' u hj'
          match j', hj' with
          | 0, hj' =>
            simp at hj'
            subst hj'
            have := cell_of (heap_new (w2.alloc (.cells #[.int .i64 (x : Int), .int .i64 (q : Int)] 113)) (.cells #[.int .i64 (x : Int)] 3)) 0
            rw [World.size_alloc] at this
            rw [Addr.add_lit]
            exact this
        case c2 => intro u hu; simp at hu; subst hu; rfl
        case c3 => unfold maxLen; omega
        case c4 => omega
        case c5 => simp; omega
        intro v' w3 hown0 hgrow _
        have hown' : w3.ownsRow (w1.heap.size + 2) 3 1 v' (xs ++ [(x : Int)]).length ((xs ++ [(x : Int)]).map (Value.int .i64)) := by
          rw [List.map_append, List.length_append, xl.1]
          exact hown0
        clear hown0
        obtain ⟨oa', c', hv', _⟩ := owns_at hown'
        subst hv'
        have hlt2 := L2.out.own.lt
        have t1 := cell_of ((hgrow.block w2.heap.size (by simp; omega) (fun e => by have := (hlt2 _ e.symm).2; omega)).trans T3.out) 1
        have ne : ∀ b, b < w1.heap.size + 2 → some b ≠ v.ownBlock := fun b hb e => by
          have := (hlt2 b e.symm).1
          omega
        have p3 := (hgrow.block (w1.heap.size + 1) (by simp; omega) (ne _ (by omega))).trans L3.out.out
        have o2 := cell_of p3 0
        have o3 := cell_of p3 1
        have g2 := frozen_of p3 0
        have g3 := frozen_of p3 1
        simp at t1 o2 o3
        have L4 : Hid (LK w ((w3.setCell ⟨w1.heap.size + 1, 0, none⟩ (.slice oa' (xs ++ [(x : Int)]).length c')).setCell ⟨w1.heap.size + 1, 1, none⟩ (.int .i64 ((k + (o + q) : Nat) : Int))) w.heap.size w1.heap.size n k (.slice oa' (xs ++ [(x : Int)]).length c') (k + (o + q)) (xs ++ [(x : Int)])) := L3.out.grown hgrow hown' (k + (o + q))
        rw [show (xs ++ [(x : Int)]).length = j + 1 by simp [xl.1]] at L4
        clear hown' hgrow p3 ne hlt2
        go_wp2_with fail
        go_roundw
        case rel => exact ⟨j + 1, o + q, xs ++ [(x : Int)], _, by omega, by go_num, N3.out, by
            rw [show ((k : Int) + (o : Int) + (q : Int)) = ((k + (o + q) : Nat) : Int) by omega]
            exact L4.out⟩
        case measure => simp [intOf]; omega
    · have hjn' : decide ((j : Int) < (n : Int)) = false := by simp; omega
      have e : j = n := by omega
      subst e
      have r0 := cell_of hlk.res 0
      have r1 := cell_of hlk.res 1
      have g0 := frozen_of hlk.res 0
      have g1 := frozen_of hlk.res 1
      simp at r0 r1
      obtain ⟨oa, c, hv, hat⟩ := owns_at hlk.own
      rw [xl.1] at hv
      subst hv
      have AT2 : Hid (At ((wr.setCell ⟨w.heap.size, 0, none⟩ (.slice oa j c)).setCell ⟨w.heap.size, 1, none⟩ (.int .i64 ((k + o : Nat) : Int))) oa xs) := by
        have q1 := owns_setCell (owns_setCell hlk.own w.heap.size 0 (by have := hlk.lt; omega) (.slice oa j c)) w.heap.size 1 (by have := hlk.lt; omega) (.int .i64 ((k + o : Nat) : Int))
        obtain ⟨oa', c', hv', hat'⟩ := owns_at q1
        simp at hv'
        obtain ⟨rfl, _, rfl⟩ := hv'
        exact hat'
      clear ht hlk hat
      go_wp2_with fail
      exact bodyPost_ret (results_row2 Try.results74 _ _ _ _ _ rfl rfl (loadVar_list (two_set LL.out.res _ _) rfl)) rfl ⟨.inr ⟨xs, o, oa, c, HT.out, rfl, AT2.out⟩, (LL.out.bel.setCell (Nat.le_refl _) _).setCell (Nat.le_refl _) _⟩

set_option maxRecDepth 100000 in
set_option maxHeartbeats 1600000 in
theorem rtakelist_none (s : ByteArray) (most : Int) (w : World) (h : tk (nbs s) = none) :
    Calls Try.prog 74 #[.string s, .int .i64 most] w fun r w' => r = .returned (.tuple #[.agg #[.slice none 0 0, .int .i64 0], .int .i64 4]) ∧ Below w.heap.size w w' := by
  have H := hide h
  clear h
  go_enter Try.func74, Try.ntmps74
  go_wp2_with fail
  refine (rtake_none s H.out _).mono ?_
  rintro r w1 ⟨rfl, b1⟩
  have HR := heap_below (heap_new w (.cells #[.slice none 0 0, .int .i64 0] 129)) b1
  have rlt := heap_lt HR
  have r0 := cell_of HR 0
  have r1 := cell_of HR 1
  have g0 := frozen_of HR 0
  have g1 := frozen_of HR 1
  simp at r0 r1
  have HH := hide HR
  have B1 := hide (btr (below_alloc _ _) b1)
  clear HR b1
  go_wp2_with fail
  exact bodyPost_ret (results_row2 Try.results74 _ _ _ _ _ rfl rfl (loadVar_list (heap_below (two_set HH.out _ _) (below_alloc _ _)) rfl)) rfl ⟨rfl, btr ((B1.out.setCell (Nat.le_refl _) _).setCell (Nat.le_refl _) _) (below_alloc _ _)⟩

set_option maxRecDepth 100000 in
set_option maxHeartbeats 1600000 in
theorem rtakelist_long (s : ByteArray) (most : Int) (n k : Nat) (w : World) (h : tk (nbs s) = some (n, k)) (hm : most < (n : Int)) :
    Calls Try.prog 74 #[.string s, .int .i64 most] w fun r w' => r = .returned (.tuple #[.agg #[.slice none 0 0, .int .i64 0], .int .i64 2]) ∧ Below w.heap.size w w' := by
  have H := hide h
  have hd : decide (most < (n : Int)) = true := by simpa using hm
  clear h hm
  go_enter Try.func74, Try.ntmps74
  go_wp2_with fail
  refine (rtake_some s n k H.out _).mono ?_
  rintro r w1 ⟨rfl, b1⟩
  have HR := heap_below (heap_new w (.cells #[.slice none 0 0, .int .i64 0] 129)) b1
  have rlt := heap_lt HR
  have r0 := cell_of HR 0
  have r1 := cell_of HR 1
  have g0 := frozen_of HR 0
  have g1 := frozen_of HR 1
  simp at r0 r1
  have HH := hide HR
  have B1 := hide (btr (below_alloc _ _) b1)
  clear HR b1
  go_wp2_with fail
  exact bodyPost_ret (results_row2 Try.results74 _ _ _ _ _ rfl rfl (loadVar_list (heap_below (two_set HH.out _ _) (below_alloc _ _)) rfl)) rfl ⟨rfl, btr ((B1.out.setCell (Nat.le_refl _) _).setCell (Nat.le_refl _) _) (below_alloc _ _)⟩

theorem rtakelist_err (s : ByteArray) (most e : Int) (w : World) (h : tl (nbs s) most = .error e) (hs : s.size ≤ 5000000) :
    Calls Try.prog 74 #[.string s, .int .i64 most] w fun r w' => r = .returned (.tuple #[.agg #[.slice none 0 0, .int .i64 0], .int .i64 e]) ∧ Below w.heap.size w w' := by
  unfold tl at h
  cases ht : tk (nbs s) with
  | none =>
    rw [ht] at h
    simp at h
    subst h
    exact rtakelist_none s most w ht
  | some p =>
    obtain ⟨n, k⟩ := p
    rw [ht] at h
    simp only at h
    by_cases hm : most < (n : Int)
    · rw [if_pos hm] at h
      simp at h
      subst h
      exact rtakelist_long s most n k w ht hm
    · rw [if_neg hm] at h
      cases hq : tst ((nbs s).drop k) n with
      | some p => rw [hq] at h; simp at h
      | none =>
        rw [hq] at h
        simp at h
        subst h
        refine (rtakelist_loop s most n k w ht (by omega) hs).mono ?_
        rintro r w' ⟨⟨_, rfl⟩ | ⟨xs, o, oa, c, q, _⟩, hb⟩
        · exact ⟨rfl, hb⟩
        · rw [hq] at q; cases q
theorem rtakelist_ok (s : ByteArray) (most : Int) (xs : List Int) (z : Nat) (w : World) (h : tl (nbs s) most = .ok (xs, z)) (hs : s.size ≤ 5000000) :
    Calls Try.prog 74 #[.string s, .int .i64 most] w fun r w' => ∃ oa c, r = .returned (.tuple #[.agg #[.slice oa xs.length c, .int .i64 (z : Int)], .int .i64 0]) ∧ At w' oa xs ∧ Below w.heap.size w w' := by
  unfold tl at h
  cases ht : tk (nbs s) with
  | none => rw [ht] at h; simp at h
  | some p =>
    obtain ⟨n, k⟩ := p
    rw [ht] at h
    simp only at h
    by_cases hm : most < (n : Int)
    · rw [if_pos hm] at h; simp at h
    · rw [if_neg hm] at h
      cases hq : tst ((nbs s).drop k) n with
      | none => rw [hq] at h; simp at h
      | some p =>
        obtain ⟨ys, o⟩ := p
        rw [hq] at h
        simp at h
        obtain ⟨rfl, rfl⟩ := h
        have hl := tst_some hq
        refine (rtakelist_loop s most n k w ht (by omega) hs).mono ?_
        rintro r w' ⟨⟨q, _⟩ | ⟨xs, o', oa, c, q, rfl, hA⟩, hb⟩
        · rw [hq] at q; cases q
        · rw [hq] at q
          simp at q
          obtain ⟨rfl, rfl⟩ := q
          rw [hl.1]
          exact ⟨oa, c, rfl, hA, hb⟩
end Re
end Go.Proofs.Ytocmdehpbipmlaa
/- There and back: numbers and lists of numbers, plain. -/
namespace Go.Proofs.Ytocmdehpbipmlaa
open Go.ChangeShapes Go.WideShapes Go.ChangeAt Go.RowKit
namespace Re
open Ba

theorem foldl_dg (k n : Nat) : ∀ a, (dg k n).foldl (fun a b => 256 * a + b) a = a * 256 ^ k + n % 256 ^ k := by
  induction k with
  | zero => intro a; simp [dg, Nat.mod_one]
  | succ k ih =>
    intro a
    rw [show dg (k + 1) n = n / 256 ^ k % 256 :: dg k n from rfl, List.foldl_cons, ih, Nat.mod_pow_succ, Nat.pow_succ, Nat.add_mul]
    have e1 : 256 * a * 256 ^ k = a * (256 ^ k * 256) := by rw [Nat.mul_comm 256 a, Nat.mul_assoc, Nat.mul_comm 256]
    have e2 : n / 256 ^ k % 256 * 256 ^ k = 256 ^ k * (n / 256 ^ k % 256) := Nat.mul_comm _ _
    rw [e1, e2]
    omega
theorem vl_dg (k n : Nat) (h : n < 256 ^ k) : vl (dg k n) = n := by
  have := foldl_dg k n 0
  rw [Nat.zero_mul, Nat.zero_add, Nat.mod_eq_of_lt h] at this
  exact this
set_option maxRecDepth 100000 in
theorem nb_holds (n : Nat) (h : n ≤ 1099511627776) : n < 256 ^ nb n := by
  unfold nb
  by_cases h1 : n < 256
  · rw [if_pos h1]; exact h1
  rw [if_neg h1]
  by_cases h2 : n < 65536
  · rw [if_pos h2]; exact h2
  rw [if_neg h2]
  by_cases h3 : n < 16777216
  · rw [if_pos h3]; exact h3
  rw [if_neg h3]
  by_cases h4 : n < 4294967296
  · rw [if_pos h4]; exact h4
  rw [if_neg h4]
  by_cases h5 : n < 1099511627776
  · rw [if_pos h5]; exact h5
  rw [if_neg h5]
  have : 256 ^ 6 = 281474976710656 := rfl
  omega
theorem tk_spl (n : Nat) (R : List Nat) (h : n ≤ 1099511627776) : tk (spl n ++ R) = some (n, (spl n).length) := by
  by_cases h1 : n < 240
  · rw [spl_lo n h1]
    simp [tk, h1]
  · have hz := szn_lo n h
    rw [spl_hi n (by omega)] at hz ⊢
    rw [List.length_cons, dg_length] at hz
    rw [List.length_cons, dg_length, List.cons_append]
    have h2 := nb_le n
    have h3 := nb_pos n
    have e : 240 + nb n - 240 = nb n := by omega
    have et : (dg (nb n) n ++ R).take (nb n) = dg (nb n) n := by
      rw [List.take_append_of_le_length (by rw [dg_length]; exact Nat.le_refl _), List.take_of_length_le (by rw [dg_length]; exact Nat.le_refl _)]
    have ev := vl_dg (nb n) n (nb_holds n h)
    simp only [tk]
    rw [if_neg (by omega), e, et, ev, if_pos ⟨h3, h2, by rw [List.length_append, dg_length]; omega, by omega⟩, Nat.add_comm]
theorem pls_append (a b : List Int) : pls (a ++ b) = pls a ++ pls b := by simp [pls]
theorem pls_cons (x : Int) (l : List Int) : pls (x :: l) = spl x.toNat ++ pls l := by simp [pls]
theorem tst_pls (l : List Int) (R : List Nat) (h : ∀ x ∈ l, okR x = true) : ∀ i, i ≤ l.length → tst (pls l ++ R) i = some (l.take i, (pls (l.take i)).length) := by
  intro i
  induction i with
  | zero => intro _; simp [tst, pls]
  | succ i ih =>
    intro hi
    have hi' : i < l.length := by omega
    have h0 := ih (by omega)
    have hx := (okR_iff _).1 (h l[i] (List.getElem_mem hi'))
    have ed : (pls l ++ R).drop (pls (l.take i)).length = spl (l[i]).toNat ++ (pls (l.drop (i + 1)) ++ R) := by
      have e1 : pls l = pls (l.take i) ++ pls (l.drop i) := by rw [← pls_append, List.take_append_drop]
      rw [e1, List.append_assoc, List.drop_left]
      rw [List.drop_eq_getElem_cons hi', pls_cons, List.append_assoc]
    have ht := tk_spl (l[i]).toNat (pls (l.drop (i + 1)) ++ R) (by omega)
    rw [← ed] at ht
    have := tst_next h0 ht
    rw [this, pls_take l i hi', List.length_append, nth_lt l i hi']
    have e2 : l.take i ++ [((l[i]).toNat : Int)] = l.take (i + 1) := by
      rw [show ((l[i]).toNat : Int) = l[i] by omega, List.take_append_getElem]
    rw [e2]
theorem tl_plist (l : List Int) (R : List Nat) (hl : l.length ≤ 2000) (h : l.all okR = true) : tl (plist l ++ R) (l.length : Int) = .ok (l, (plist l).length) := by
  have h' : ∀ x ∈ l, okR x = true := List.all_eq_true.1 h
  have h1 := tk_spl l.length (pls l ++ R) (by omega)
  rw [← List.append_assoc] at h1
  have h2 := tst_pls l R h' l.length (Nat.le_refl _)
  rw [List.take_length] at h2
  unfold tl
  rw [show plist l = spl l.length ++ pls l from rfl, h1]
  simp only
  rw [if_neg (by omega), List.append_assoc, List.drop_left, h2]
  simp
theorem tk_put {L : List Nat} {n k : Nat} (hL : ∀ b ∈ L, b < 256) (h : tk L = some (n, k)) : spl n ++ L.drop k = L := by
  cases L with
  | nil => simp [tk] at h
  | cons b t =>
    simp only [tk] at h
    by_cases h1 : b < 240
    · rw [if_pos h1] at h
      simp at h
      obtain ⟨rfl, rfl⟩ := h
      rw [spl_lo b h1]
      rfl
    · rw [if_neg h1] at h
      split at h
      · rename_i q
        simp only [Option.some.injEq, Prod.mk.injEq] at h
        obtain ⟨rfl, rfl⟩ := h
        have := ((fit_iff (t.take (b - 240)) (b - 240) q.1 (by simp; omega) (fun x hx => hL x (List.mem_cons_of_mem _ (List.mem_of_mem_take hx)))).1 q.2.2.2).2
        rw [this, show 240 + (b - 240) = b by omega, Nat.add_comm 1]
        simp
      · simp at h
end Re
end Go.Proofs.Ytocmdehpbipmlaa
