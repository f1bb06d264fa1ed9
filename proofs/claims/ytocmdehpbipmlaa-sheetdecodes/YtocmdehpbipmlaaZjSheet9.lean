import Derived.Test.YtocmdehpbipmlaaZjSheet8
import Derived.Maps.AppendAt
import Derived.Deep.CutRange
import Derived.Deep.RegionWith
/- What the reference's Decode of a script keeps: the programs that are done, and the one under way. -/
namespace Go.Proofs.Ytocmdehpbipmlaa
open Go.ChangeShapes Go.WideShapes Go.ChangeAt Go.RowKit
namespace Sh
open De Ba Re

/-- the cells of an operation, its cases at ca -/
def oc (o : OpD) (ca : Option Addr) (cc : Nat) : List Value := [.int .i64 o.kind, .int .i64 o.a, .int .i64 o.b, .slice ca o.cases.length cc, .bool o.def_]
/-- in the row cs of cells the t'th operation is o, its cases at ca -/
def OcAt (cs : List Value) (t : Nat) (o : OpD) (ca : Option Addr) (cc : Nat) : Prop :=
  cs[t * 5]? = some (.int .i64 o.kind) ∧ cs[t * 5 + 1]? = some (.int .i64 o.a) ∧ cs[t * 5 + 2]? = some (.int .i64 o.b) ∧ cs[t * 5 + 3]? = some (.slice ca o.cases.length cc) ∧ cs[t * 5 + 4]? = some (.bool o.def_)
/-- the program under way: its row is its own, from block N on, and so are the cases, in other blocks -/
def OW (w : World) (N : Nat) (v : Value) (q : List OpD) : Prop :=
  ∃ cs, w.ownsRow N 24 5 v q.length cs ∧ ∀ t o, q[t]? = some o → ∃ ca cc, OcAt cs t o ca cc ∧ CAt w ca o.cases ∧ (∀ a, ca = some a → o.cases ≠ [] → N ≤ a.block ∧ v.ownBlock ≠ some a.block) ∧ o.cases.length ≤ 3000
theorem OW.nil (w : World) (N : Nat) : OW w N (.slice none 0 0) [] := ⟨[], World.ownsRow_nil _ _ _ _, fun t o h => by simp at h⟩
theorem cat_keep {w w' : World} {oa : Option Addr} {l : List Cs} (h : CAt w oa l) (hb : ∀ a, oa = some a → l ≠ [] → w'.heap[a.block]? = w.heap[a.block]?) : CAt w' oa l := by
  intro j x hj
  obtain ⟨b, off, rfl, h1, h2, h3⟩ := h j x hj
  have hne : l ≠ [] := by
    rintro rfl
    simp at hj
  have e := hb _ rfl hne
  simp only at e
  refine ⟨b, off, rfl, ?_, ?_, ?_⟩
  · rw [← h1]; simp only [World.cell?, e]
  · rw [← h2]; simp only [World.cell?, e]
  · rw [← h3]; simp only [World.cell?, e]
theorem OW.below {w w' : World} {N : Nat} {v : Value} {q : List OpD} (h : OW w N v q) (hb : Below w.heap.size w w') : OW w' N v q := by
  obtain ⟨cs, h1, h2⟩ := h
  refine ⟨cs, owns_below h1 hb, fun t o ht => ?_⟩
  obtain ⟨ca, cc, g1, g2, g3, g4⟩ := h2 t o ht
  exact ⟨ca, cc, g1, g2.below hb, g3, g4⟩
theorem OW.kb {w w' : World} {N R : Nat} {v : Value} {q : List OpD} (h : OW w N v q) (k : De.KB R w w') (hR : R < N) : OW w' N v q := by
  obtain ⟨cs, h1, h2⟩ := h
  refine ⟨cs, ⟨h1.1, ?_⟩, fun t o ht => ?_⟩
  · rcases h1.2 with e | ⟨g, cap, cur, q1, q2, q3, q4⟩
    · exact .inl e
    · exact .inr ⟨g, cap, cur, q1, q2, k.heap q3 (by omega), q4⟩
  · obtain ⟨ca, cc, g1, g2, g3, g4⟩ := h2 t o ht
    refine ⟨ca, cc, g1, cat_kb' k g2 (fun a e hne => ?_), g3, g4⟩
    have := (g3 a e hne).1
    omega
theorem oc_last {cs : List Value} {n : Nat} (hl : cs.length = n * 5) (o : OpD) (ca : Option Addr) (cc : Nat) : OcAt (cs ++ oc o ca cc) n o ca cc := by
  refine ⟨?_, ?_, ?_, ?_, ?_⟩
  all_goals
    rw [List.getElem?_append_right (by omega), hl]
    simp [oc]
theorem oc_front {cs ds : List Value} {t : Nat} {o : OpD} {ca : Option Addr} {cc : Nat} (h : OcAt cs t o ca cc) : OcAt (cs ++ ds) t o ca cc := by
  obtain ⟨h0, h1, h2, h3, h4⟩ := h
  have e : ∀ (i : Nat) (v : Value), cs[i]? = some v → (cs ++ ds)[i]? = some v := fun i v hv => by
    rw [List.getElem?_append_left (List.getElem?_eq_some_iff.1 hv).1]
    exact hv
  exact ⟨e _ _ h0, e _ _ h1, e _ _ h2, e _ _ h3, e _ _ h4⟩
/-- one operation more -/
theorem OW.app {w W w3 : World} {N : Nat} {v v' : Value} {q : List OpD} {o : OpD} {ca : Option Addr} {cc : Nat} (hb : Below w.heap.size w W) (hC : CAt W ca o.cases) (hca : ∀ a, ca = some a → o.cases ≠ [] → N ≤ a.block ∧ v.ownBlock ≠ some a.block ∧ a.block < W.heap.size) (h3 : o.cases.length ≤ 3000)
    (cs : List Value) (hcs : W.ownsRow N 24 5 v q.length cs) (hcs2 : ∀ t o, q[t]? = some o → ∃ ca cc, OcAt cs t o ca cc ∧ CAt w ca o.cases ∧ (∀ a, ca = some a → o.cases ≠ [] → N ≤ a.block ∧ v.ownBlock ≠ some a.block) ∧ o.cases.length ≤ 3000)
    (ho : w3.ownsRow N 24 5 v' (q.length + 1) (cs ++ oc o ca cc)) (hg : W.grownBy w3 v.ownBlock) (hat : v'.ownBlock = v.ownBlock ∨ v'.ownBlock = some W.heap.size) : OW w3 N v' (q ++ [o]) := by
  have nw : ∀ (x : Nat), v.ownBlock ≠ some x → x < W.heap.size → v'.ownBlock ≠ some x := by
    intro x hx hlt e
    rcases hat with e2 | e2
    · exact hx (e2 ▸ e)
    · rw [e2] at e
      cases e
      omega
  refine ⟨cs ++ oc o ca cc, by rw [List.length_append]; exact ho, fun t x ht => ?_⟩
  by_cases e : t < q.length
  · rw [List.getElem?_append_left e] at ht
    obtain ⟨ca1, cc1, g1, g2, g3, g4⟩ := hcs2 t x ht
    have g2' := g2.below hb
    refine ⟨ca1, cc1, oc_front g1, cat_keep g2' (fun a ea hne => hg.block a.block (cat_lt g2' hne a ea) (fun e2 => (g3 a ea hne).2 e2.symm)), fun a ea hne => ⟨(g3 a ea hne).1, nw _ (g3 a ea hne).2 (cat_lt g2' hne a ea)⟩, g4⟩
  · have htl := (List.getElem?_eq_some_iff.1 ht).1
    simp at htl
    obtain rfl : t = q.length := by omega
    simp at ht
    subst ht
    have hl : cs.length = q.length * 5 := hcs.1
    refine ⟨ca, cc, oc_last hl o ca cc, cat_keep hC (fun a ea hne => hg.block a.block (hca a ea hne).2.2 (fun e2 => (hca a ea hne).2.1 e2.symm)), fun a ea hne => ⟨(hca a ea hne).1, nw _ (hca a ea hne).2.1 (hca a ea hne).2.2⟩, h3⟩

/-- a program that is done: in blocks between B and N, but av -/
def OQ (w : World) (B N : Nat) (av : Option Nat) (oa : Option Addr) (q : List OpD) : Prop :=
  ∀ k o, q[k]? = some o → ∃ b off ca cc, oa = some ⟨b, off, none⟩ ∧ (w.cell? ⟨b, off + k * 5, none⟩ = some (.int .i64 o.kind) ∧ w.cell? ⟨b, off + k * 5 + 1, none⟩ = some (.int .i64 o.a) ∧ w.cell? ⟨b, off + k * 5 + 2, none⟩ = some (.int .i64 o.b) ∧ w.cell? ⟨b, off + k * 5 + 3, none⟩ = some (.slice ca o.cases.length cc) ∧ w.cell? ⟨b, off + k * 5 + 4, none⟩ = some (.bool o.def_)) ∧ CAt w ca o.cases ∧ (B < b ∧ b < N ∧ av ≠ some b) ∧ (∀ a, ca = some a → o.cases ≠ [] → B < a.block ∧ a.block < N ∧ av ≠ some a.block) ∧ o.cases.length ≤ 3000
def PQ (w : World) (B N : Nat) (av : Option Nat) (vs : List Value) (ps : List (List OpD)) : Prop :=
  vs.length = ps.length ∧ ∀ (t : Nat) (q : List OpD), ps[t]? = some q → ∃ (oa : Option Addr) (c : Nat), vs[t]? = some (Value.slice oa q.length c) ∧ OQ w B N av oa q ∧ q.length ≤ 32
theorem OQ.keep {w w' : World} {B N N' : Nat} {av av' : Option Nat} {oa : Option Addr} {q : List OpD} (h : OQ w B N av oa q) (hk : ∀ x, B < x → x < N → av ≠ some x → w'.heap[x]? = w.heap[x]?) (hN : N ≤ N') (ha : ∀ x, x < N → av ≠ some x → av' ≠ some x) : OQ w' B N' av' oa q := by
  intro k o hq
  obtain ⟨b, off, ca, cc, rfl, ⟨q0, q1, q2, q3, q4⟩, hC, ⟨b1, b2, b3⟩, hca, hl⟩ := h k o hq
  have e := hk b b1 b2 b3
  have ce : ∀ i v, w.cell? ⟨b, i, none⟩ = some v → w'.cell? ⟨b, i, none⟩ = some v := fun i v hv => by
    rw [← hv]
    simp only [World.cell?, e]
  refine ⟨b, off, ca, cc, rfl, ⟨ce _ _ q0, ce _ _ q1, ce _ _ q2, ce _ _ q3, ce _ _ q4⟩, cat_keep hC (fun a ea hne => hk _ (hca a ea hne).1 (hca a ea hne).2.1 (hca a ea hne).2.2), ⟨b1, by omega, ha b b2 b3⟩, fun a ea hne => ?_, hl⟩
  obtain ⟨c1, c2, c3⟩ := hca a ea hne
  exact ⟨c1, by omega, ha _ c2 c3⟩
theorem PQ.keep {w w' : World} {B N N' : Nat} {av av' : Option Nat} {vs : List Value} {ps : List (List OpD)} (h : PQ w B N av vs ps) (hk : ∀ x, B < x → x < N → av ≠ some x → w'.heap[x]? = w.heap[x]?) (hN : N ≤ N') (ha : ∀ x, x < N → av ≠ some x → av' ≠ some x) : PQ w' B N' av' vs ps := by
  refine ⟨h.1, fun t q ht => ?_⟩
  obtain ⟨oa, c, h1, h2, h3⟩ := h.2 t q ht
  exact ⟨oa, c, h1, h2.keep hk hN ha, h3⟩
theorem PQ.nil (w : World) (B N : Nat) (av : Option Nat) : PQ w B N av [] [] := ⟨rfl, fun t q h => by simp at h⟩
theorem PQ.snoc {w : World} {B N : Nat} {av : Option Nat} {vs : List Value} {ps : List (List OpD)} {oa : Option Addr} {q : List OpD} {c : Nat} (h : PQ w B N av vs ps) (hq : OQ w B N av oa q) (hl : q.length ≤ 32) : PQ w B N av (vs ++ [.slice oa q.length c]) (ps ++ [q]) := by
  refine ⟨by simp [h.1], fun t x ht => ?_⟩
  by_cases e : t < ps.length
  · rw [List.getElem?_append_left e] at ht
    obtain ⟨oa1, c1, g1, g2, g3⟩ := h.2 t x ht
    exact ⟨oa1, c1, by rw [List.getElem?_append_left (by rw [h.1]; exact e)]; exact g1, g2, g3⟩
  · have htl := (List.getElem?_eq_some_iff.1 ht).1
    simp at htl
    obtain rfl : t = ps.length := by omega
    simp at ht
    subst ht
    exact ⟨oa, c, by rw [← h.1]; simp, hq, hl⟩
/-- a program under way is done -/
theorem OW.done {w : World} {N B : Nat} {v : Value} {q : List OpD} {av : Option Nat} (h : OW w N v q) (hB : B < N) (ha : ∀ x, N ≤ x → av ≠ some x) : ∃ oa c, v = .slice oa q.length c ∧ OQ w B w.heap.size av oa q := by
  obtain ⟨cs, h1, h2⟩ := h
  rcases h1.2 with ⟨rfl, h0⟩ | ⟨g, cap, cur, rfl, hg, hc, hn, _, hcs, htk⟩
  · obtain rfl := List.eq_nil_of_length_eq_zero h0
    exact ⟨none, 0, rfl, fun k o hk => by simp at hk⟩
  · refine ⟨_, cap, rfl, fun k o hk => ?_⟩
    obtain ⟨ca, cc, ⟨q0, q1, q2, q3, q4⟩, hC, hca, hl⟩ := h2 k o hk
    have hkl := (List.getElem?_eq_some_iff.1 hk).1
    have ce : ∀ i v, i < q.length * 5 → cs[i]? = some v → w.cell? ⟨g, 0 + i, none⟩ = some v := fun i v hi hv => by
      rw [Nat.zero_add, cell_of hc]
      rw [← htk, List.getElem?_take_of_lt hi] at hv
      simpa using hv
    refine ⟨g, 0, ca, cc, rfl, ⟨ce _ _ (by omega) q0, ce _ _ (by omega) q1, ce _ _ (by omega) q2, ce _ _ (by omega) q3, ce _ _ (by omega) q4⟩, hC, ⟨by omega, De.heap_lt hc, ha g hg⟩, fun a ea hne => ⟨by have := (hca a ea hne).1; omega, cat_lt hC hne a ea, ha _ (hca a ea hne).1⟩, hl⟩
theorem OQ.at {w : World} {B N : Nat} {av : Option Nat} {oa : Option Addr} {q : List OpD} (h : OQ w B N av oa q) : OAt w oa q := by
  intro k o hk
  obtain ⟨b, off, ca, cc, e, hc, hC, _, _, hl⟩ := h k o hk
  exact ⟨b, off, ca, cc, e, hc, hC, by unfold maxLen; omega⟩
/-- the programs, as the script's row has them -/
theorem PQ.at {w : World} {B N base : Nat} {av : Option Nat} {vs : List Value} {ps : List (List OpD)} {v : Value} (h : PQ w B N av vs ps) (ho : w.ownsRow base 56 1 v ps.length vs) : ∃ oa c, v = .slice oa ps.length c ∧ PAt w oa ps := by
  rcases ho.2 with ⟨rfl, h0⟩ | ⟨g, cap, cur, rfl, hg, hc, hn, _, hcs, htk⟩
  · obtain rfl := List.eq_nil_of_length_eq_zero h0
    exact ⟨none, 0, rfl, PAt.nil _ _⟩
  · refine ⟨_, cap, rfl, fun t q ht => ?_⟩
    obtain ⟨oa, c, h1, h2, h3⟩ := h.2 t q ht
    have htl := (List.getElem?_eq_some_iff.1 ht).1
    refine ⟨g, 0, oa, c, rfl, ?_, h2.at, by unfold maxLen; omega⟩
    rw [Nat.zero_add, cell_of hc]
    rw [← htk, List.getElem?_take_of_lt (by omega)] at h1
    simpa using h1
end Sh
end Go.Proofs.Ytocmdehpbipmlaa
/- The reference's tape and its operations, each by one contract. -/
namespace Go.Proofs.Ytocmdehpbipmlaa
open Go.ChangeShapes Go.WideShapes Go.ChangeAt Go.RowKit
namespace Sh
open De Ba Re

/-- a number that is read, or -1 -/
def NR (L : List Nat) (z : Nat) (v : Int) (y : Nat) : Prop := (tk (L.drop z) = none ∧ v = -1 ∧ y = z) ∨ ∃ n k : Nat, tk (L.drop z) = some (n, k) ∧ v = (n : Int) ∧ y = z + k
theorem number_any (s : ByteArray) (G z : Nat) (w : World) (h : TS w G s z) (hz : z ≤ s.size) (hs : s.size ≤ 5000000) :
    Calls Try.prog 49 #[.pointer (some ⟨G, 0, none⟩)] w fun r w' => ∃ (v : Int) (y : Nat), r = .returned (.int .i64 v) ∧ NR (nbs s) z v y ∧ y ≤ s.size ∧ TS w' G s y ∧ De.KB G w w' := by
  cases ht : tk ((nbs s).drop z) with
  | none =>
    refine (number_none s G z w h hz ht).mono ?_
    rintro r w' ⟨rfl, h1, h2⟩
    exact ⟨-1, z, rfl, .inl ⟨ht, rfl, rfl⟩, hz, h1, h2⟩
  | some p =>
    obtain ⟨n, k⟩ := p
    have hk := tk_le' ht
    rw [List.length_drop, nbs_length] at hk
    refine (number_some s G z n k w h hz hs ht).mono ?_
    rintro r w' ⟨rfl, h1, h2⟩
    exact ⟨n, z + k, rfl, .inr ⟨n, k, ht, rfl, rfl⟩, by omega, h1, h2⟩
theorem rdec_no (S : ByteArray) (p : Int) (w : World) (hp : okP p = true) (hs : S.size ≤ maxLen) (h : dop p S = none) :
    Calls Try.prog 10 #[.string S, .int .i64 p] w fun r w' => r = .returned (.tuple #[.agg #[.int .i64 0, .int .i64 0, .int .i64 0, .slice none 0 0, .bool false, .int .i64 0], .int .i64 4]) ∧ Below w.heap.size w w' := by
  refine (rdecode_any S p w hp hs).mono ?_
  rintro r w' ⟨⟨_, h1⟩ | ⟨h1, h2, _⟩, hb⟩
  · exact ⟨h1, hb⟩
  · unfold dop at h
    rw [if_pos ⟨h1, h2⟩] at h
    cases h
theorem rdec_ok (s : ByteArray) (z : Nat) (p : Int) (o : OpD) (k : Nat) (w : World) (hp : okP p = true) (hz : z ≤ s.size) (hs : s.size ≤ maxLen) (h : dop p (s.extract z s.size) = some (o, k)) :
    Calls Try.prog 10 #[.string (s.extract z s.size), .int .i64 p] w fun r w' => ∃ oa c, r = .returned (.tuple #[.agg #[.int .i64 o.kind, .int .i64 o.a, .int .i64 o.b, .slice oa o.cases.length c, .bool o.def_, .int .i64 (k : Int)], .int .i64 0]) ∧ (CAt w' oa o.cases ∧ ∀ a, oa = some a → w.heap.size ≤ a.block) ∧ Below w.heap.size w w' := by
  obtain ⟨h1, h2, _⟩ := dop_rest hz h
  have hsz : (s.extract z s.size).size = s.size - z := by rw [ByteArray.size_extract]; omega
  have ho : (rop (s.extract z s.size) false).1 = o ∧ (rop (s.extract z s.size) false).2.2 = false ∧ chk (rop (s.extract z s.size) false).1 p = 0 := by
    unfold dop at h
    split at h
    · rename_i hc
      simp at h
      exact ⟨h.1, hc⟩
    · cases h
  obtain ⟨e1, e2, e3⟩ := ho
  refine (rdecode_any (s.extract z s.size) p w hp (by rw [hsz]; unfold maxLen at hs ⊢; omega)).mono ?_
  rintro r w' ⟨⟨q | q, _⟩ | ⟨_, _, oa, c, y, hy, he, rfl, hA, hB⟩, hb⟩
  · rw [e2] at q; cases q
  · rw [e3] at q; simp at q
  · rw [hsz] at hy
    rw [h1] at he
    have hyk : y = k := by
      have := congrArg (fun b => (nbs b).length) he
      rw [nbs_length, nbs_length, ByteArray.size_extract, ByteArray.size_extract, hsz] at this
      omega
    subst hyk
    rw [e1] at hA ⊢
    exact ⟨oa, c, rfl, ⟨hA, hB⟩, hb⟩
end Sh
end Go.Proofs.Ytocmdehpbipmlaa
/- What the reference's Decode of a script keeps, and what it answers, over this seat's program. -/
namespace Go.Proofs.Ytocmdehpbipmlaa
open Go.ChangeShapes Go.WideShapes Go.ChangeAt Go.RowKit
namespace Sh
open De Ba Re

/-- what Decode keeps: the answer's room, the tape, the script -/
structure DB (w wr : World) (B : Nat) (s : ByteArray) (z : Nat) (v0 v1 v2 v3 v4 : Value) : Prop where
  zr : wr.heap[w.heap.size]? = some (.cells #[.int .i64 0, .int .i64 0, .slice none 0 0, .slice none 0 0, .slice none 0 0] 38 (0, 0))
  tp : TS wr (w.heap.size + 1) s z
  sc : wr.heap[B]? = some (.cells #[v0, v1, v2, v3, v4] 38 (0, 0))
  bel : Below w.heap.size w wr
  ne : w.heap.size + 1 < B
theorem DB.below {w wr wr' : World} {B : Nat} {s : ByteArray} {z : Nat} {v0 v1 v2 v3 v4 : Value} (h : DB w wr B s z v0 v1 v2 v3 v4) (hb : Below wr.heap.size wr wr') : DB w wr' B s z v0 v1 v2 v3 v4 :=
  ⟨heap_below h.zr hb, heap_below h.tp hb, heap_below h.sc hb, btr h.bel hb, h.ne⟩
theorem DB.read {w wr wr' : World} {B : Nat} {s : ByteArray} {z y : Nat} {v0 v1 v2 v3 v4 : Value} (h : DB w wr B s z v0 v1 v2 v3 v4) (ht : TS wr' (w.heap.size + 1) s y) (k : De.KB (w.heap.size + 1) wr wr') : DB w wr' B s y v0 v1 v2 v3 v4 := by
  have hn := h.ne
  exact ⟨k.heap h.zr (by omega), ht, k.heap h.sc (by omega), De.KB.below h.bel k (by omega), hn⟩
theorem DB.set {w wr : World} {B : Nat} {s : ByteArray} {z : Nat} {v0 v1 v2 v3 v4 u0 u1 u2 u3 u4 : Value} (h : DB w wr B s z v0 v1 v2 v3 v4) (i : Nat) (v : Value) (he : (#[v0, v1, v2, v3, v4] : Array Value).setIfInBounds i v = #[u0, u1, u2, u3, u4]) : DB w (wr.setCell ⟨B, i, none⟩ v) B s z u0 u1 u2 u3 u4 := by
  have hn := h.ne
  have K := (De.KB.refl B wr).setCell i v
  exact ⟨K.heap h.zr (by omega), K.heap h.tp (by omega), by rw [Ba.heap_setCell_same h.sc, he], De.KB.below h.bel K (by omega), hn⟩
theorem DB.grown {w wr wr' : World} {B : Nat} {s : ByteArray} {z : Nat} {v0 v1 v2 v3 v4 : Value} {av : Option Nat} (h : DB w wr B s z v0 v1 v2 v3 v4) (hg : wr.grownBy wr' av) (ha : ∀ x, x ≤ B → av ≠ some x) : DB w wr' B s z v0 v1 v2 v3 v4 := by
  have hn := h.ne
  refine ⟨(hg.block _ (De.heap_lt h.zr) (fun e => ha _ (by omega) e.symm)).trans h.zr, (hg.block _ (De.heap_lt h.tp) (fun e => ha _ (by omega) e.symm)).trans h.tp, (hg.block _ (De.heap_lt h.sc) (fun e => ha _ (Nat.le_refl _) e.symm)).trans h.sc, h.bel.grown hg h.bel.size (fun x hx => ?_), hn⟩
  rcases Nat.lt_or_ge B x with q | q
  · omega
  · exact absurd hx (ha x q)
/-- what Decode answers -/
def RS (d : Option Sc) (r : Ending) (w' : World) : Prop :=
  (d = none ∧ r = .returned (.tuple #[.agg #[.int .i64 0, .int .i64 0, .slice none 0 0, .slice none 0 0, .slice none 0 0], .int .i64 4])) ∨
  ∃ T M ps pl dr pa pc la lc da dc, d = some ⟨T, M, ps, pl, dr⟩ ∧ r = .returned (.tuple #[.agg #[.int .i64 T, .int .i64 M, .slice pa ps.length pc, .slice la pl.length lc, .slice da dr.length dc], .int .i64 0]) ∧ SAt w' ⟨T, M, ps, pl, dr⟩ pa la da
theorem fail_at {w wr : World} {B : Nat} {s : ByteArray} {z : Nat} {v0 v1 v2 v3 v4 : Value} (h : DB w wr B s z v0 v1 v2 v3 v4) (u0 u1 u2 u3 u4 : Value) : Below w.heap.size w (((((wr.setCell ⟨w.heap.size, 0, none⟩ u0).setCell ⟨w.heap.size, 1, none⟩ u1).setCell ⟨w.heap.size, 2, none⟩ u2).setCell ⟨w.heap.size, 3, none⟩ u3).setCell ⟨w.heap.size, 4, none⟩ u4) :=
  ((((h.bel.setCell (Nat.le_refl _) _).setCell (Nat.le_refl _) _).setCell (Nat.le_refl _) _).setCell (Nat.le_refl _) _).setCell (Nat.le_refl _) _
/-- the head of a script, as the reference reads it: three numbers; the count is from 1 to 8 -/
def rsd (s : ByteArray) : Option Sc := match tk (nbs s) with
  | none => none
  | some (t, k1) => match tk ((nbs s).drop k1) with
    | none => none
    | some (m, k2) => match tk ((nbs s).drop (k1 + k2)) with
      | none => none
      | some (n, k3) => if n < 1 ∨ 8 < n then none else match rprogs n s (k1 + k2 + k3) n with
        | none => none
        | some (ps, z) => match tl ((nbs s).drop z) 200 with
          | .error _ => none
          | .ok (xs, k5) => match tl ((nbs s).drop (z + k5)) 64 with
            | .error _ => none
            | .ok (ys, k6) => if z + k5 + k6 = s.size ∧ schk ⟨t, m, ps, mv (-1) xs, ys⟩ = 0 then some ⟨t, m, ps, mv (-1) xs, ys⟩ else none
theorem rsd_bad {s : ByteArray} {v1 v2 v3 : Int} {y1 y2 y3 : Nat} (h1 : NR (nbs s) 0 v1 y1) (h2 : NR (nbs s) y1 v2 y2) (h3 : NR (nbs s) y2 v3 y3) (h : v3 < 1 ∨ 8 < v3) : rsd s = none := by
  unfold rsd
  rcases h1 with ⟨a1, _, rfl⟩ | ⟨t, k1, a1, _, rfl⟩
  · rw [List.drop_zero] at a1
    rw [a1]
  · rw [List.drop_zero] at a1
    rw [a1]
    rw [Nat.zero_add] at h2
    rcases h2 with ⟨a2, _, rfl⟩ | ⟨m, k2, a2, _, rfl⟩
    · simp only [a2]
    · simp only [a2]
      rcases h3 with ⟨a3, _, _⟩ | ⟨n, k3, a3, rfl, _⟩
      · simp only [a3]
      · simp only [a3]
        rw [if_pos (by omega)]
theorem rsd_good {s : ByteArray} {v1 v2 v3 : Int} {y1 y2 y3 : Nat} (h1 : NR (nbs s) 0 v1 y1) (h2 : NR (nbs s) y1 v2 y2) (h3 : NR (nbs s) y2 v3 y3) (h : ¬ (v3 < 1 ∨ 8 < v3)) : ∃ t m n : Nat, v1 = (t : Int) ∧ v2 = (m : Int) ∧ v3 = (n : Int) ∧ (1 ≤ n ∧ n ≤ 8) ∧ rsd s = match rprogs n s y3 n with
        | none => none
        | some (ps, z) => match tl ((nbs s).drop z) 200 with
          | .error _ => none
          | .ok (xs, k5) => match tl ((nbs s).drop (z + k5)) 64 with
            | .error _ => none
            | .ok (ys, k6) => if z + k5 + k6 = s.size ∧ schk ⟨t, m, ps, mv (-1) xs, ys⟩ = 0 then some ⟨t, m, ps, mv (-1) xs, ys⟩ else none := by
  rcases h3 with ⟨_, rfl, _⟩ | ⟨n, k3, a3, rfl, rfl⟩
  · omega
  rcases h2 with ⟨a2, _, rfl⟩ | ⟨m, k2, a2, rfl, rfl⟩
  · rw [a2] at a3; cases a3
  rcases h1 with ⟨a1, _, rfl⟩ | ⟨t, k1, a1, rfl, rfl⟩
  · rw [a1] at a2; cases a2
  rw [List.drop_zero] at a1
  rw [Nat.zero_add] at a2 a3
  refine ⟨t, m, n, rfl, rfl, rfl, by omega, ?_⟩
  unfold rsd
  simp only [a1, a2, a3]
  rw [if_neg (by omega), Nat.zero_add]
theorem nr_bad {L : List Nat} {z y : Nat} {v : Int} (h : NR L z v y) (hv : v < 0 ∨ 32 < v) : up1 32 (L.drop z) = none := by
  unfold up1
  rcases h with ⟨a, _, _⟩ | ⟨n, k, a, rfl, _⟩
  · rw [a]
  · simp only [a]
    rw [if_neg (by omega)]
theorem nr_good {L : List Nat} {z y : Nat} {v : Int} (h : NR L z v y) (hv : ¬ (v < 0 ∨ 32 < v)) : ∃ n k : Nat, v = (n : Int) ∧ n ≤ 32 ∧ y = z + k ∧ up1 32 (L.drop z) = some (n, k) := by
  unfold up1
  rcases h with ⟨_, rfl, _⟩ | ⟨n, k, a, rfl, rfl⟩
  · omega
  · refine ⟨n, k, rfl, by omega, rfl, ?_⟩
    simp only [a]
    rw [if_pos (by omega)]
/-- what is taken lies in block X -/
structure GX (w wc : World) (X : Nat) (o : OpD) (oa : Option Addr) (c k : Nat) : Prop where
  x : wc.heap[X]? = some (.cells #[.int .i64 o.kind, .int .i64 o.a, .int .i64 o.b, .slice oa o.cases.length c, .bool o.def_, .int .i64 (k : Int)] 29 (0, 0))
  cat : CAt wc oa o.cases
  b : Below w.heap.size w wc
  n : w.heap.size ≤ X
  ca : ∀ a, oa = some a → w.heap.size ≤ a.block
theorem GX.one {w u1 : World} {o : OpD} {oa : Option Addr} {c k : Nat} (b1 : Below w.drew.heap.size w.drew u1) (hC : CAt u1 oa o.cases) (ha : ∀ a, oa = some a → w.drew.heap.size ≤ a.block) : GX w (u1.alloc (.cells #[.int .i64 o.kind, .int .i64 o.a, .int .i64 o.b, .slice oa o.cases.length c, .bool o.def_, .int .i64 (k : Int)] 29)) u1.heap.size o oa c k :=
  ⟨heap_new _ _, hC.below (below_alloc _ _), btr (btr (bdrew1 w) b1) (below_alloc _ _), b1.size, ha⟩
theorem GX.two {w u1 : World} {o : OpD} {oa : Option Addr} {c k : Nat} {x0 x1 x2 x3 x4 x5 : Value} (hz : u1.heap[w.heap.size]? = some (.cells #[x0, x1, x2, x3, x4, x5] 29 (0, 0))) (hb : Below w.heap.size w u1) (hC : CAt u1 oa o.cases) (ha : ∀ a, oa = some a → w.heap.size + 1 ≤ a.block) : GX w ((((((u1.setCell ⟨w.heap.size, 0, none⟩ (.int .i64 o.kind)).setCell ⟨w.heap.size, 1, none⟩ (.int .i64 o.a)).setCell ⟨w.heap.size, 2, none⟩ (.int .i64 o.b)).setCell ⟨w.heap.size, 3, none⟩ (.slice oa o.cases.length c)).setCell ⟨w.heap.size, 4, none⟩ (.bool o.def_)).setCell ⟨w.heap.size, 5, none⟩ (.int .i64 (k : Int))) w.heap.size o oa c k :=
  ⟨six_set hz _ _ _ _ _ _, cat_kb ((((((De.KB.refl w.heap.size u1).setCell 0 _).setCell 1 _).setCell 2 _).setCell 3 _).setCell 4 _ |>.setCell 5 _) hC (fun a e => by have := ha a e; omega), below_six hb (Nat.le_refl _) _ _ _ _ _ _, Nat.le_refl _, fun a e => by have := ha a e; omega⟩
theorem own_below2 {w w' : World} {base : Nat} {e : TypeId} {size : Nat} {v : Value} {n : Nat} {xs : List Value} (h : w.ownsRow base e size v n xs) (hb : Below w.heap.size w w') : w'.ownsRow base e size v n xs := by
  refine ⟨h.1, ?_⟩
  rcases h.2 with q | ⟨g, cap, cur, q1, q2, q3, q4⟩
  · exact .inl q
  · exact .inr ⟨g, cap, cur, q1, q2, heap_below q3 hb, q4⟩
theorem own_oth {W w3 : World} {base size : Nat} {e : TypeId} {av : Option Nat} {o : Value} {n : Nat} {xs : List Value} (ho : W.ownsRow base e size o n xs) (hg : W.grownBy w3 av) (hne : ∀ k, o.ownBlock = some k → av ≠ some k) : w3.ownsRow base e size o n xs := by
  refine ⟨ho.1, ?_⟩
  rcases ho.2 with q | ⟨g, cap, cur, rfl, q2, q3, q4⟩
  · exact .inl q
  · exact .inr ⟨g, cap, cur, rfl, q2, (hg.block g (De.heap_lt q3) (fun e => hne g rfl e.symm)).trans q3, q4⟩
theorem src5 (w : World) (o : OpD) (oa : Option Addr) (c : Nat) (t : TypeId) : ∀ j u, (oc o oa c)[j]? = some u → (w.alloc (.cells #[.int .i64 o.kind, .int .i64 o.a, .int .i64 o.b, .slice oa o.cases.length c, .bool o.def_] t)).cell? ((⟨w.heap.size, 0, none⟩ : Addr).add j) = some u := by
  intro j u hj
  rw [Addr.add_lit, Nat.zero_add, cell_of (heap_new _ _), ← hj]
  simp [oc]
theorem oc_one (o : OpD) (oa : Option Addr) (c : Nat) : ∀ u ∈ oc o oa c, u.oneCell' = true := by
  intro u hu
  simp [oc] at hu
  rcases hu with rfl | rfl | rfl | rfl | rfl <;> rfl
theorem size_set (w : World) (a : Addr) (v : Value) : (w.setCell a v).heap.size = w.heap.size := by simp [World.setCell]
end Sh
end Go.Proofs.Ytocmdehpbipmlaa
/- The reference reads the same scripts out of bytes as the program's words for it. -/
namespace Go.Proofs.Ytocmdehpbipmlaa
open Go.ChangeShapes Go.WideShapes Go.ChangeAt Go.RowKit
namespace Sh
open De Ba Re

/-- behind a script's head -/
def stail (s : ByteArray) (t m n z3 : Nat) : Option Sc := match rprogs n s z3 n with
  | none => none
  | some (ps, z) => match tl ((nbs s).drop z) 200 with
    | .error _ => none
    | .ok (xs, k5) => match tl ((nbs s).drop (z + k5)) 64 with
      | .error _ => none
      | .ok (ys, k6) => if z + k5 + k6 = s.size ∧ schk ⟨t, m, ps, mv (-1) xs, ys⟩ = 0 then some ⟨t, m, ps, mv (-1) xs, ys⟩ else none
theorem stail_bad {s : ByteArray} {t m n z3 : Nat} (h : 256 < t ∨ 1048576 < m ∨ n < 1) : stail s t m n z3 = none := by
  unfold stail
  cases hr : rprogs n s z3 n with
  | none => rfl
  | some p =>
    obtain ⟨ps, z⟩ := p
    have hl := rprogs_len hr
    simp only
    cases h1 : tl ((nbs s).drop z) 200 with
    | error e => rfl
    | ok q =>
      obtain ⟨xs, k5⟩ := q
      simp only
      cases h2 : tl ((nbs s).drop (z + k5)) 64 with
      | error e => rfl
      | ok q2 =>
        obtain ⟨ys, k6⟩ := q2
        simp only
        refine if_neg ?_
        rintro ⟨_, hc⟩
        obtain ⟨t12, m12, _, _, _, _, h0, _⟩ := schk_zero hc
        simp only at t12 m12 h0
        omega
theorem rsd_tail (s : ByteArray) : rsd s = match tk (nbs s) with
  | none => none
  | some (t, k1) => match tk ((nbs s).drop k1) with
    | none => none
    | some (m, k2) => match tk ((nbs s).drop (k1 + k2)) with
      | none => none
      | some (n, k3) => if n < 1 ∨ 8 < n then none else stail s t m n (k1 + k2 + k3) := rfl
theorem sdec_tail (s : ByteArray) : sdec s = match shead s with
  | none => none
  | some (t, m, n, z3) => stail s t m n z3 := rfl
theorem up1_none {m : Int} {L : List Nat} (h : tk L = none) : up1 m L = none := by
  unfold up1
  rw [h]
theorem up1_some {m : Int} {L : List Nat} {n k : Nat} (h : tk L = some (n, k)) (hn : (n : Int) ≤ m) : up1 m L = some (n, k) := by
  unfold up1
  rw [h]
  simp only
  exact if_pos hn
theorem up1_over {m : Int} {L : List Nat} {n k : Nat} (h : tk L = some (n, k)) (hn : ¬ (n : Int) ≤ m) : up1 m L = none := by
  unfold up1
  rw [h]
  simp only
  exact if_neg hn
theorem rsd_sdec (s : ByteArray) : rsd s = sdec s := by
  rw [rsd_tail, sdec_tail]
  unfold shead
  cases h1 : tk (nbs s) with
  | none => rw [up1_none h1]
  | some p1 =>
    obtain ⟨t, k1⟩ := p1
    simp only
    cases h2 : tk ((nbs s).drop k1) with
    | none =>
      by_cases ht : (t : Int) ≤ 256
      · rw [up1_some h1 ht]
        simp only
        rw [up1_none h2]
      · rw [up1_over h1 ht]
    | some p2 =>
      obtain ⟨m, k2⟩ := p2
      simp only
      cases h3 : tk ((nbs s).drop (k1 + k2)) with
      | none =>
        by_cases ht : (t : Int) ≤ 256
        · rw [up1_some h1 ht]
          simp only
          by_cases hm : (m : Int) ≤ 1048576
          · rw [up1_some h2 hm]
            simp only
            rw [up1_none h3]
          · rw [up1_over h2 hm]
        · rw [up1_over h1 ht]
      | some p3 =>
        obtain ⟨n, k3⟩ := p3
        simp only
        by_cases ht : (t : Int) ≤ 256
        · rw [up1_some h1 ht]
          simp only
          by_cases hm : (m : Int) ≤ 1048576
          · rw [up1_some h2 hm]
            simp only
            by_cases hn : (n : Int) ≤ 8
            · rw [up1_some h3 hn]
              simp only
              by_cases h0 : n < 1
              · rw [if_pos (Or.inl h0), stail_bad (.inr (.inr h0))]
              · rw [if_neg (by omega)]
            · rw [up1_over h3 hn]
              simp only
              rw [if_pos (Or.inr (by omega))]
          · rw [up1_over h2 hm]
            simp only
            split
            · rfl
            · exact stail_bad (.inr (.inl (by omega)))
        · rw [up1_over h1 ht]
          simp only
          split
          · rfl
          · exact stail_bad (.inl (by omega))
end Sh
end Go.Proofs.Ytocmdehpbipmlaa
/- Rows of numbers beside a script that is read, over this seat's program. -/
namespace Go.Proofs.Ytocmdehpbipmlaa
open Go.ChangeShapes Go.WideShapes Go.ChangeAt Go.RowKit
namespace Sh
open De Ba Re

def ic (l : List Int) : List Value := l.map (Value.int .i64)
theorem ic_app (l m : List Int) : ic (l ++ m) = ic l ++ ic m := by simp [ic]
theorem own_at {w : World} {base : Nat} {v : Value} {l : List Int} (h : w.ownsRow base 3 1 v l.length (ic l)) : ∃ oa c, v = .slice oa l.length c ∧ At w oa l ∧ ∀ a, oa = some a → base ≤ a.block := by
  rcases h.2 with ⟨rfl, h0⟩ | ⟨g, cap, cur, rfl, hb, hg, hc, _, hcs, htk⟩
  · refine ⟨none, 0, by rw [h0], ?_, fun a e => by cases e⟩
    obtain rfl := List.eq_nil_of_length_eq_zero h0
    exact At.nil _ _
  · refine ⟨_, cap, rfl, ?_, fun a e => by cases e; exact hb⟩
    intro k hk
    refine ⟨g, 0, rfl, ?_⟩
    have q : (ic l)[k]? = some (.int .i64 (nth l k)) := by simp [ic, nth, hk]
    rw [← htk, List.getElem?_take_of_lt (by omega)] at q
    rw [Nat.zero_add, cell_of hg]
    simpa using q
theorem at_lt {w : World} {oa : Option Addr} {l : List Int} (h : At w oa l) (h0 : 0 < l.length) (a : Addr) (e : oa = some a) : a.block < w.heap.size := by
  obtain ⟨b, off, rfl, hc⟩ := h 0 h0
  cases e
  exact World.block_lt_of_cell? w _ hc
theorem at_keep {w w' : World} {oa : Option Addr} {l : List Int} (h : At w oa l) (hb : ∀ a, oa = some a → 0 < l.length → w'.heap[a.block]? = w.heap[a.block]?) : At w' oa l := by
  intro k hk
  obtain ⟨b, off, rfl, hc⟩ := h k hk
  refine ⟨b, off, rfl, ?_⟩
  have e := hb _ rfl (by omega)
  simp only at e
  rw [← hc]
  simp only [World.cell?, e]
theorem own_keep {w w' : World} {base : Nat} {e : TypeId} {size : Nat} {v : Value} {n : Nat} {xs : List Value} (h : w.ownsRow base e size v n xs) (hk : ∀ g, v.ownBlock = some g → w'.heap[g]? = w.heap[g]?) : w'.ownsRow base e size v n xs := by
  refine ⟨h.1, ?_⟩
  rcases h.2 with q | ⟨g, cap, cur, q1, q2, q3, q4⟩
  · exact .inl q
  · exact .inr ⟨g, cap, cur, q1, q2, (hk g (by rw [q1]; rfl)).trans q3, q4⟩
theorem mv_take (xs : List Int) (i : Nat) (h : i < xs.length) : mv (-1) (xs.take (i + 1)) = mv (-1) (xs.take i) ++ [nth xs i - 1] := by
  unfold mv
  rw [List.take_add_one, List.getElem?_eq_getElem h, nth_lt xs i h, List.map_append, Int.sub_eq_add_neg]
  rfl
/-- a script lies in a later world -/
theorem sat_of {wd w5 wf : World} {B N : Nat} {av : Option Nat} {vs : List Value} {ps : List (List OpD)} {pa la da : Option Addr} {pc : Nat} {pl dr : List Int} {T M : Int} (P : PQ wd B N av vs ps) (O : wd.ownsRow (B + 1) 56 1 (.slice pa ps.length pc) ps.length vs) (hN : N ≤ wd.heap.size) (LA : At wd la pl) (LB : ∀ a, la = some a → B < a.block) (Y : At w5 da dr) (YB : ∀ a, da = some a → B < a.block)
    (hk1 : ∀ x, B < x → x < wd.heap.size → wf.heap[x]? = wd.heap[x]?) (hk2 : ∀ x, B < x → x < w5.heap.size → wf.heap[x]? = w5.heap[x]?) (l1 : ps.length ≤ maxLen) (l2 : pl.length ≤ maxLen) (l3 : dr.length ≤ maxLen) : SAt wf ⟨T, M, ps, pl, dr⟩ pa la da := by
  have P2 := P.keep (w' := wf) (N' := N) (av' := av) (fun x h1 h2 _ => hk1 x h1 (by omega)) (Nat.le_refl _) (fun _ _ h => h)
  have O2 := own_keep (w' := wf) O (fun g e => by
    have q := O.lt _ e
    exact hk1 g (by omega) q.2)
  obtain ⟨pa', pc', he, hP⟩ := P2.at O2
  cases he
  exact ⟨hP, at_keep LA (fun a e h0 => hk1 _ (LB a e) (at_lt LA h0 a e)), at_keep Y (fun a e h0 => hk2 _ (YB a e) (at_lt Y h0 a e)), l1, l2, l3⟩
end Sh
end Go.Proofs.Ytocmdehpbipmlaa
/- The reference's Decode of a script, over this seat's program. -/
namespace Go.Proofs.Ytocmdehpbipmlaa
open Go.ChangeShapes Go.WideShapes Go.ChangeAt Go.RowKit
namespace Sh
open De Ba Re

theorem GX.two1 {w u1 : World} {o : OpD} {oa : Option Addr} {c k : Nat} (b1 : Below (w.drew.alloc (.cells #[.int .i64 0, .int .i64 0, .int .i64 0, .slice none 0 0, .bool false, .int .i64 0] 29)).heap.size (w.drew.alloc (.cells #[.int .i64 0, .int .i64 0, .int .i64 0, .slice none 0 0, .bool false, .int .i64 0] 29)) u1) (h : CAt u1 oa o.cases ∧ ∀ a, oa = some a → (w.drew.alloc (.cells #[.int .i64 0, .int .i64 0, .int .i64 0, .slice none 0 0, .bool false, .int .i64 0] 29)).heap.size ≤ a.block) : GX w ((((((u1.setCell ⟨w.heap.size, 0, none⟩ (.int .i64 o.kind)).setCell ⟨w.heap.size, 1, none⟩ (.int .i64 o.a)).setCell ⟨w.heap.size, 2, none⟩ (.int .i64 o.b)).setCell ⟨w.heap.size, 3, none⟩ (.slice oa o.cases.length c)).setCell ⟨w.heap.size, 4, none⟩ (.bool o.def_)).setCell ⟨w.heap.size, 5, none⟩ (.int .i64 (k : Int))) w.heap.size o oa c k :=
  GX.two (heap_below (heap_new w.drew (.cells #[.int .i64 0, .int .i64 0, .int .i64 0, .slice none 0 0, .bool false, .int .i64 0] 29)) b1) (btr (btr (bdrew1 w) (below_alloc _ _)) b1) h.1 (fun a e => by have q := h.2 a e; rw [World.size_alloc] at q; exact q)
theorem GX.two2 {w u1 : World} {o : OpD} {oa : Option Addr} {c k : Nat} (b1 : Below (w.alloc (.cells #[.int .i64 0, .int .i64 0, .int .i64 0, .slice none 0 0, .bool false, .int .i64 0] 29)).drew.heap.size (w.alloc (.cells #[.int .i64 0, .int .i64 0, .int .i64 0, .slice none 0 0, .bool false, .int .i64 0] 29)).drew u1) (h : CAt u1 oa o.cases ∧ ∀ a, oa = some a → (w.alloc (.cells #[.int .i64 0, .int .i64 0, .int .i64 0, .slice none 0 0, .bool false, .int .i64 0] 29)).drew.heap.size ≤ a.block) : GX w ((((((u1.setCell ⟨w.heap.size, 0, none⟩ (.int .i64 o.kind)).setCell ⟨w.heap.size, 1, none⟩ (.int .i64 o.a)).setCell ⟨w.heap.size, 2, none⟩ (.int .i64 o.b)).setCell ⟨w.heap.size, 3, none⟩ (.slice oa o.cases.length c)).setCell ⟨w.heap.size, 4, none⟩ (.bool o.def_)).setCell ⟨w.heap.size, 5, none⟩ (.int .i64 (k : Int))) w.heap.size o oa c k :=
  GX.two1 b1 h
set_option maxRecDepth 100000 in
set_option maxHeartbeats 64000000 in
theorem rsdec_any (s : ByteArray) (w : World) (hs : s.size ≤ 5000) :
    Calls Try.prog 20 #[.string s] w fun r w' => RS (rsd s) r w' ∧ Below w.heap.size w w' := by
  have T0 : Hid (TS ((w.alloc (.cells #[.int .i64 0, .int .i64 0, .slice none 0 0, .slice none 0 0, .slice none 0 0] 38)).alloc (.cells #[.string s, .int .i64 0] 94)) (w.heap.size + 1) s 0) := by
    have := heap_new (w.alloc (.cells #[.int .i64 0, .int .i64 0, .slice none 0 0, .slice none 0 0, .slice none 0 0] 38)) (.cells #[.string s, .int .i64 0] 94)
    rw [World.size_alloc] at this
    exact this
  have Z0 := hide (heap_below (heap_new w (.cells #[.int .i64 0, .int .i64 0, .slice none 0 0, .slice none 0 0, .slice none 0 0] 38)) (below_alloc (w.alloc (.cells #[.int .i64 0, .int .i64 0, .slice none 0 0, .slice none 0 0, .slice none 0 0] 38)) (.cells #[.string s, .int .i64 0] 94)))
  have B0 := hide (btr (below_alloc w (.cells #[.int .i64 0, .int .i64 0, .slice none 0 0, .slice none 0 0, .slice none 0 0] 38)) (below_alloc (w.alloc (.cells #[.int .i64 0, .int .i64 0, .slice none 0 0, .slice none 0 0, .slice none 0 0] 38)) (.cells #[.string s, .int .i64 0] 94)))
  obtain ⟨i0, hi0, hz00, hz01, hz02⟩ := info_parts info_op
  have INO := hide (And.intro hi0 (And.intro hz00 (And.intro hz01 hz02)))
  obtain ⟨i1, hi1, hz10, hz11, hz12⟩ := info_parts info_pr
  have INP := hide (And.intro hi1 (And.intro hz10 (And.intro hz11 hz12)))
  obtain ⟨i2, hi2, hz20, hz21, hz22⟩ := info_parts info_int
  have INI := hide (And.intro hi2 (And.intro hz20 (And.intro hz21 hz22)))
  clear hi2 hz20 hz21 hz22
  clear hi0 hz00 hz01 hz02 hi1 hz10 hz11 hz12
  go_enter Try.func20, Try.ntmps20
  go_wp2_with fail
  generalize (w.alloc (.cells #[.int .i64 0, .int .i64 0, .slice none 0 0, .slice none 0 0, .slice none 0 0] 38)).alloc (.cells #[.string s, .int .i64 0] 94) = W0 at T0 Z0 B0 ⊢
  refine (number_any s (w.heap.size + 1) 0 _ T0.out (Nat.zero_le _) (by omega)).mono ?_
  rintro r w1 ⟨v1, y1, rfl, n1, l1, t1, k1⟩
  have N1 := hide n1
  have s1 := De.heap_lt t1
  have D1 : Hid (DB w (w1.alloc (.cells #[.int .i64 v1, .int .i64 0, .slice none 0 0, .slice none 0 0, .slice none 0 0] 38)) w1.heap.size s y1 (.int .i64 v1) (.int .i64 0) (.slice none 0 0) (.slice none 0 0) (.slice none 0 0)) :=
    ⟨heap_below (k1.heap Z0.out (by omega)) (below_alloc _ _), heap_below t1 (below_alloc _ _), heap_new _ _, btr (De.KB.below B0.out k1 (by omega)) (below_alloc _ _), s1⟩
  clear n1 t1 k1 T0 Z0 B0
  go_wp2_with fail
  generalize w1.alloc (.cells #[.int .i64 v1, .int .i64 0, .slice none 0 0, .slice none 0 0, .slice none 0 0] 38) = W1 at D1 ⊢
  generalize w1.heap.size = B at D1 s1 ⊢
  refine (number_any s (w.heap.size + 1) y1 _ D1.out.tp l1 (by omega)).mono ?_
  rintro r w2 ⟨v2, y2, rfl, n2, l2, t2, k2⟩
  have N2 := hide n2
  have D2 := hide (D1.out.read t2 k2)
  have q1 := (sc_cells D2.out.sc).2.1
  have f1 := frozen_of D2.out.sc 1
  have D3 := hide (D2.out.set (u0 := .int .i64 v1) (u1 := .int .i64 v2) (u2 := .slice none 0 0) (u3 := .slice none 0 0) (u4 := .slice none 0 0) 1 (.int .i64 v2) rfl)
  clear n2 t2 k2 D1
  go_wp2_with fail
  generalize w2.setCell ⟨B, 1, none⟩ (.int .i64 v2) = W2 at D3 ⊢
  clear q1 f1 D2
  refine (number_any s (w.heap.size + 1) y2 _ D3.out.tp l2 (by omega)).mono ?_
  rintro r w3 ⟨v3, y3, rfl, n3, l3, t3, k3⟩
  have N3 := hide n3
  have D4 := hide (D3.out.read t3 k3)
  clear n3 t3 k3 D3
  obtain ⟨z0, z1, z2, z3, z4⟩ := sc_cells D4.out.zr
  have fz0 := frozen_of D4.out.zr 0
  have fz1 := frozen_of D4.out.zr 1
  have fz2 := frozen_of D4.out.zr 2
  have fz3 := frozen_of D4.out.zr 3
  have fz4 := frozen_of D4.out.zr 4
  by_cases hc : v3 < 1 ∨ 8 < v3
  · have RB := hide (rsd_bad N1.out N2.out N3.out hc)
    by_cases h1 : v3 < 1
    · have d1 : decide (v3 < 1) = true := decide_eq_true h1
      clear hc
      go_wp2_with fail
      exact bodyPost_ret (results_row2 Try.results20 _ _ _ _ _ rfl rfl (loadVar_sc (five_set D4.out.zr _ _ _ _ _) rfl)) rfl ⟨.inl ⟨RB.out, rfl⟩, fail_at D4.out _ _ _ _ _⟩
    · have d1 : decide (v3 < 1) = false := decide_eq_false h1
      have d2 : decide (8 < v3) = true := decide_eq_true (by omega)
      clear hc
      go_wp2_with fail
      exact bodyPost_ret (results_row2 Try.results20 _ _ _ _ _ rfl rfl (loadVar_sc (five_set D4.out.zr _ _ _ _ _) rfl)) rfl ⟨.inl ⟨RB.out, rfl⟩, fail_at D4.out _ _ _ _ _⟩
  obtain ⟨t, m, n, rfl, rfl, rfl, hn, hrs⟩ := rsd_good N1.out N2.out N3.out hc
  have RG := hide hrs
  have d1 : decide ((n : Int) < 1) = false := decide_eq_false (by omega)
  have d2 : decide (8 < (n : Int)) = false := decide_eq_false (by omega)
  clear hrs hc N1 N2 N3
  go_wp2_with fail
  clear z0 z1 z2 z3 z4 fz0 fz1 fz2 fz3 fz4
  go_loopw [7] (fun ii wr => ∃ (j y : Nat) (ps : List (List OpD)) (vs : List Value) (v2 : Value), j ≤ n ∧ ii = .int .i64 j ∧ rprogs n s y3 j = some (ps, y) ∧ y ≤ s.size ∧ DB w wr B s y (.int .i64 (t : Int)) (.int .i64 (m : Int)) v2 (.slice none 0 0) (.slice none 0 0) ∧ wr.ownsRow (B + 1) 56 1 v2 ps.length vs ∧ PQ wr B wr.heap.size v2.ownBlock vs ps) (fun ii _ => n - (intOf ii).toNat)
  case atStart => exact ⟨0, y3, [], [], _, Nat.zero_le _, rfl, rfl, l3, D4.out, World.ownsRow_nil _ _ _ _, PQ.nil _ _ _ _⟩
  case round =>
    clear D4
    rename World => wa
    obtain ⟨j, y, ps, vs, v2, hj, rfl, hrp, hy, db, hov, hpq⟩ := hrel
    obtain ⟨pa, pc, rfl⟩ := owns_slice hov
    have RP := hide hrp
    have D5 := hide db
    have OV := hide hov
    have PV := hide hpq
    clear hrp db hov hpq
    by_cases hlt : j < n
    · have hlt' : (j : Int) < (n : Int) := by omega
      go_wp2_with fail
      refine (number_any s (w.heap.size + 1) y _ D5.out.tp hy (by omega)).mono ?_
      rintro r w4 ⟨v, y', rfl, n4, l4, t4, k4⟩
      have N4 := hide n4
      have D6 := hide (D5.out.read t4 k4)
      have sB := D5.out.ne
      have OV6 : Hid (w4.ownsRow (B + 1) 56 1 (.slice pa ps.length pc) ps.length vs) := owns_kb OV.out k4 (fun e => by have := (OV.out.lt _ e.symm).1; omega)
      have PV6 := hide (PV.out.keep (w' := w4) (N' := w4.heap.size) (fun x hx hx2 _ => k4.block x hx2 (by omega)) k4.size (fun _ _ h => h))
      clear n4 t4 k4 D5 OV PV
      by_cases hv : v < 0 ∨ 32 < v
      · have RB : Hid (rsd s = none) := by
          show _ = _
          rw [RG.out, rprogs_stop RP.out (by unfold rprog; rw [nr_bad N4.out hv]) n hlt]
        obtain ⟨z0, z1, z2, z3, z4⟩ := sc_cells D6.out.zr
        have fz0 := frozen_of D6.out.zr 0
        have fz1 := frozen_of D6.out.zr 1
        have fz2 := frozen_of D6.out.zr 2
        have fz3 := frozen_of D6.out.zr 3
        have fz4 := frozen_of D6.out.zr 4
        by_cases h1 : v < 0
        · have e1 : decide (v < 0) = true := decide_eq_true h1
          clear hv
          go_wp2_with fail
          exact bodyPost_ret (results_row2 Try.results20 _ _ _ _ _ rfl rfl (loadVar_sc (five_set D6.out.zr _ _ _ _ _) rfl)) rfl ⟨.inl ⟨RB.out, rfl⟩, fail_at D6.out _ _ _ _ _⟩
        · have e1 : decide (v < 0) = false := decide_eq_false h1
          have e2 : decide (32 < v) = true := decide_eq_true (by omega)
          clear hv
          go_wp2_with fail
          exact bodyPost_ret (results_row2 Try.results20 _ _ _ _ _ rfl rfl (loadVar_sc (five_set D6.out.zr _ _ _ _ _) rfl)) rfl ⟨.inl ⟨RB.out, rfl⟩, fail_at D6.out _ _ _ _ _⟩
      · obtain ⟨mm, kk, rfl, hmm, rfl, hup⟩ := nr_good N4.out hv
        have e1 : decide ((mm : Int) < 0) = false := decide_eq_false (by omega)
        have e2 : decide (32 < (mm : Int)) = false := decide_eq_false (by omega)
        have RPG : Hid (rprog n s y = rops n s (y + kk) mm) := by show _ = _; unfold rprog; rw [hup]
        clear hv N4 hup
        go_wp2_with fail
        have NL := hide (show ∀ x, w4.heap.size ≤ x → (Value.slice pa ps.length pc).ownBlock ≠ some x from fun x hx e => by have := (OV6.out.lt _ e).2; omega)
        have NB : B < w4.heap.size := De.heap_lt D6.out.sc
        obtain ⟨NN, hNN⟩ : ∃ NN, NN = w4.heap.size := ⟨_, rfl⟩
        rw [← hNN] at PV6 NL NB
        have hNN2 : NN ≤ w4.heap.size := by omega
        clear hNN
        go_loopw [9, 10] (fun pv kv wr => ∃ (i yy : Nat) (q : List OpD) (vp : Value), i ≤ mm ∧ kv = .int .i64 i ∧ pv = vp ∧ rops n s (y + kk) i = some (q, yy) ∧ yy ≤ s.size ∧ DB w wr B s yy (.int .i64 (t : Int)) (.int .i64 (m : Int)) (.slice pa ps.length pc) (.slice none 0 0) (.slice none 0 0) ∧ wr.ownsRow (B + 1) 56 1 (.slice pa ps.length pc) ps.length vs ∧ PQ wr B NN (Value.slice pa ps.length pc).ownBlock vs ps ∧ OW wr NN vp q ∧ NN ≤ wr.heap.size) (fun _ kv _ => mm - (intOf kv).toNat)
        case atStart => exact ⟨0, y + kk, [], _, Nat.zero_le _, rfl, rfl, rfl, l4, D6.out, OV6.out, PV6.out, OW.nil _ _, hNN2⟩
        case round =>
          clear D6 OV6 PV6 hNN2
          rename World => wb
          obtain ⟨i, yy, q, vp, hi, rfl, rfl, hro, hyy, db, hov, hpq, how, hNb⟩ := hrel
          have RO := hide hro
          have D7 := hide db
          have OV := hide hov
          have PV := hide hpq
          obtain ⟨cs, how1, how2⟩ := how
          obtain ⟨qa, qc, rfl⟩ := owns_slice how1
          have OC := hide how1
          have OD := hide how2
          clear hro db hov hpq how1 how2
          by_cases hil : i < mm
          · have hil' : (i : Int) < (mm : Int) := by omega
            have c0 := cell_of D7.out.tp 0
            have c1 := cell_of D7.out.tp 1
            have sB := D7.out.ne
            have sG := De.heap_lt D7.out.tp
            simp at c0 c1
            cases hd : dop n (s.extract yy s.size) with
            | none =>
              have HD := hide hd
              clear hd
              have RB : Hid (rsd s = none) := by
                show _ = _
                rw [RG.out, rprogs_stop RP.out (by rw [RPG.out, rops_stop RO.out HD.out mm hil]) n hlt]
              go_wp2_with fail
              go_cut [11, 12] from 51 to 87 (fun s11 s12 wc => ∃ X : Nat, s11 = .pointer (some ⟨X, 0, none⟩) ∧ s12 = .int .i64 4 ∧ Below wb.heap.size wb wc)
              case first =>
                go_region_with (go_at_call 10; refine (rdec_no (s.extract yy s.size) n _ (by simp [okP]; omega) (by rw [ByteArray.size_extract]; unfold maxLen; omega) HD.out).mono ?_; rintro r u1 ⟨rfl, b1⟩; have B1 := hide b1; first | (have hz1 : u1.heap[wb.heap.size]? = some (.cells #[.int .i64 0, .int .i64 0, .int .i64 0, .slice none 0 0, .bool false, .int .i64 0] 29 (0, 0)) := heap_below (heap_new wb.drew (.cells #[.int .i64 0, .int .i64 0, .int .i64 0, .slice none 0 0, .bool false, .int .i64 0] 29)) b1; have z0 := cell_of hz1 0; have z1 := cell_of hz1 1; have z2 := cell_of hz1 2; have z3 := cell_of hz1 3; have z4 := cell_of hz1 4; have z5 := cell_of hz1 5; have g0 := frozen_of hz1 0; have g1 := frozen_of hz1 1; have g2 := frozen_of hz1 2; have g3 := frozen_of hz1 3; have g4 := frozen_of hz1 4; have g5 := frozen_of hz1 5; simp at z0 z1 z2 z3 z4 z5; have HZ := hide hz1; clear hz1 b1) | (have hz1 : u1.heap[wb.heap.size]? = some (.cells #[.int .i64 0, .int .i64 0, .int .i64 0, .slice none 0 0, .bool false, .int .i64 0] 29 (0, 0)) := heap_below (show (wb.alloc (.cells #[.int .i64 0, .int .i64 0, .int .i64 0, .slice none 0 0, .bool false, .int .i64 0] 29)).drew.heap[wb.heap.size]? = _ from heap_new wb (.cells #[.int .i64 0, .int .i64 0, .int .i64 0, .slice none 0 0, .bool false, .int .i64 0] 29)) b1; have z0 := cell_of hz1 0; have z1 := cell_of hz1 1; have z2 := cell_of hz1 2; have z3 := cell_of hz1 3; have z4 := cell_of hz1 4; have z5 := cell_of hz1 5; have g0 := frozen_of hz1 0; have g1 := frozen_of hz1 1; have g2 := frozen_of hz1 2; have g3 := frozen_of hz1 3; have g4 := frozen_of hz1 4; have g5 := frozen_of hz1 5; simp at z0 z1 z2 z3 z4 z5; have HZ := hide hz1; clear hz1 b1) | clear b1)
                all_goals
                  go_wp2_with fail
                  go_meet
                  case rel =>
                    first
                      | exact ⟨_, rfl, rfl, below_six (btr (btr (bdrew1 wb) (below_alloc _ _)) B1.out) (Nat.le_refl _) _ _ _ _ _ _⟩
                      | exact ⟨_, rfl, rfl, below_six (btr (btr (below_alloc _ _) (bdrew1 _)) B1.out) (Nat.le_refl _) _ _ _ _ _ _⟩
                      | exact ⟨_, rfl, rfl, btr (btr (bdrew1 wb) B1.out) (below_alloc _ _)⟩
              case rest =>
                obtain ⟨X, rfl, rfl, hb⟩ := hcut
                have D8 := hide (D7.out.below hb)
                clear hb c0 c1
                obtain ⟨z0, z1, z2, z3, z4⟩ := sc_cells D8.out.zr
                have fz0 := frozen_of D8.out.zr 0
                have fz1 := frozen_of D8.out.zr 1
                have fz2 := frozen_of D8.out.zr 2
                have fz3 := frozen_of D8.out.zr 3
                have fz4 := frozen_of D8.out.zr 4
                go_wp2_with fail
                exact bodyPost_ret (results_row2 Try.results20 _ _ _ _ _ rfl rfl (loadVar_sc (five_set D8.out.zr _ _ _ _ _) rfl)) rfl ⟨.inl ⟨RB.out, rfl⟩, fail_at D8.out _ _ _ _ _⟩
            | some ok =>
              obtain ⟨o, k⟩ := ok
              have HD := hide hd
              clear hd
              have h3000 : o.cases.length ≤ 3000 := by have := (dop_rest hyy HD.out).2.2.2.1; have := (chk_zero this).2.2.1; omega
              have hk2 := (dop_rest hyy HD.out).2.1
              go_wp2_with fail
              go_cut [11, 12] from 51 to 87 (fun s11 s12 wc => ∃ (oa : Option Addr) (c X : Nat), s11 = .pointer (some ⟨X, 0, none⟩) ∧ s12 = .int .i64 0 ∧ GX wb wc X o oa c k)
              case first =>
                go_region_with (go_at_call 10; refine (rdec_ok s yy n o k _ (by simp [okP]; omega) hyy (by unfold maxLen; omega) HD.out).mono ?_; rintro r u1 ⟨oa, c, rfl, hC1, b1⟩; have B1 := hide b1; first | (have hz1 : u1.heap[wb.heap.size]? = some (.cells #[.int .i64 0, .int .i64 0, .int .i64 0, .slice none 0 0, .bool false, .int .i64 0] 29 (0, 0)) := heap_below (heap_new wb.drew (.cells #[.int .i64 0, .int .i64 0, .int .i64 0, .slice none 0 0, .bool false, .int .i64 0] 29)) b1; have z0 := cell_of hz1 0; have z1 := cell_of hz1 1; have z2 := cell_of hz1 2; have z3 := cell_of hz1 3; have z4 := cell_of hz1 4; have z5 := cell_of hz1 5; have g0 := frozen_of hz1 0; have g1 := frozen_of hz1 1; have g2 := frozen_of hz1 2; have g3 := frozen_of hz1 3; have g4 := frozen_of hz1 4; have g5 := frozen_of hz1 5; simp at z0 z1 z2 z3 z4 z5; have HZ := hide hz1; clear hz1 b1) | (have hz1 : u1.heap[wb.heap.size]? = some (.cells #[.int .i64 0, .int .i64 0, .int .i64 0, .slice none 0 0, .bool false, .int .i64 0] 29 (0, 0)) := heap_below (show (wb.alloc (.cells #[.int .i64 0, .int .i64 0, .int .i64 0, .slice none 0 0, .bool false, .int .i64 0] 29)).drew.heap[wb.heap.size]? = _ from heap_new wb (.cells #[.int .i64 0, .int .i64 0, .int .i64 0, .slice none 0 0, .bool false, .int .i64 0] 29)) b1; have z0 := cell_of hz1 0; have z1 := cell_of hz1 1; have z2 := cell_of hz1 2; have z3 := cell_of hz1 3; have z4 := cell_of hz1 4; have z5 := cell_of hz1 5; have g0 := frozen_of hz1 0; have g1 := frozen_of hz1 1; have g2 := frozen_of hz1 2; have g3 := frozen_of hz1 3; have g4 := frozen_of hz1 4; have g5 := frozen_of hz1 5; simp at z0 z1 z2 z3 z4 z5; have HZ := hide hz1; clear hz1 b1) | clear b1)
                all_goals
                  go_wp2_with fail
                  go_meet
                  case rel =>
                    first
                      | (have _h := HZ; exact ⟨oa, c, _, rfl, rfl, GX.two1 B1.out hC1⟩)
                      | (have _h := HZ; exact ⟨oa, c, _, rfl, rfl, GX.two2 B1.out hC1⟩)
                      | exact ⟨oa, c, _, rfl, rfl, GX.one B1.out hC1.1 hC1.2⟩
              case rest =>
                obtain ⟨oa, c, X, rfl, rfl, gx⟩ := hcut
                have GG := hide gx
                have D8 := hide (D7.out.below gx.b)
                have sX := gx.n
                have d1 := cell_of D8.out.tp 1
                have f1 := frozen_of D8.out.tp 1
                have e0 := cell_of gx.x 0
                have e1 := cell_of gx.x 1
                have e2 := cell_of gx.x 2
                have e3 := cell_of gx.x 3
                have e4 := cell_of gx.x 4
                have e5 := cell_of gx.x 5
                have hGX : w.heap.size + 1 ≠ X := by omega
                simp at d1 e0 e1 e2 e3 e4 e5
                have KV := hide ((De.KB.refl (w.heap.size + 1) wc).setCell 1 (.int .i64 ((yy : Int) + (k : Int))))
                have D9 := hide (D8.out.read (TS.set D8.out.tp (yy + k) ((yy : Int) + (k : Int)) (by omega)) KV.out)
                have OV9 := hide (owns_kb (own_below2 OV.out gx.b) KV.out (fun e => by have := (OV.out.lt _ e.symm).1; omega))
                have PV9 := hide (PV.out.keep (w' := wc.setCell ⟨w.heap.size + 1, 1, none⟩ (.int .i64 ((yy : Int) + (k : Int)))) (N' := NN) (fun x hx hx2 _ => (KV.out.block x (by have := gx.b.size; omega) (by omega)).trans (gx.b.block x (by omega))) (Nat.le_refl _) (fun _ _ h => h))
                have OW9 := hide ((OW.below ⟨cs, OC.out, OD.out⟩ gx.b).kb KV.out (by omega))
                have CA9 := hide (cat_kb KV.out gx.cat (fun a e => by have := gx.ca a e; omega))
                have OB := hide (show ∀ x, wb.heap.size ≤ x → (Value.slice qa q.length qc).ownBlock ≠ some x from fun x hx e => by have := (OC.out.lt _ e).2; omega)
                have OA := hide (show ∀ x, x ≤ B → (Value.slice qa q.length qc).ownBlock ≠ some x from fun x hx e => by have := (OC.out.lt _ e).1; omega)
                have ON := hide (show ∀ x, x < NN → (Value.slice qa q.length qc).ownBlock ≠ some x from fun x hx e => by have := (OC.out.lt _ e).1; omega)
                clear gx c0 c1
                obtain ⟨cs2, oc2, od2⟩ := OW9.out
                have OC2 := hide oc2
                have OD2 := hide od2
                have CAX := hide (show ∀ a, oa = some a → wb.heap.size ≤ a.block from GG.out.ca)
                have LB := hide GG.out.b.size
                have LS : Hid (wc.heap.size = (wc.setCell ⟨w.heap.size + 1, 1, none⟩ (.int .i64 ((yy : Int) + (k : Int)))).heap.size) := (size_set _ _ _).symm
                have b10 : Below (wc.setCell ⟨w.heap.size + 1, 1, none⟩ (.int .i64 ((yy : Int) + (k : Int)))).heap.size (wc.setCell ⟨w.heap.size + 1, 1, none⟩ (.int .i64 ((yy : Int) + (k : Int)))) ((wc.setCell ⟨w.heap.size + 1, 1, none⟩ (.int .i64 ((yy : Int) + (k : Int)))).alloc (.cells #[.int .i64 o.kind, .int .i64 o.a, .int .i64 o.b, .slice oa o.cases.length c, .bool o.def_] 24)).drew := btr (below_alloc _ _) (bdrew1 _)
                have B10 := hide b10
                have SZ10 : Hid (((wc.setCell ⟨w.heap.size + 1, 1, none⟩ (.int .i64 ((yy : Int) + (k : Int)))).alloc (.cells #[.int .i64 o.kind, .int .i64 o.a, .int .i64 o.b, .slice oa o.cases.length c, .bool o.def_] 24)).drew.heap.size = wc.heap.size + 1) := (World.size_alloc _ _).trans (by rw [size_set])
                clear b10 oc2 od2 OW9 OC OD GG D7 D8 OV PV KV
                go_wp2_with fail
                go_region
                all_goals
                  go_wp2_with (at_builtin; refine wpList_append_own_at _ rfl _ _ 56 rfl NN 24 i0 _ 5 56 Try.underlying56 INO.out.1 INO.out.2.1 INO.out.2.2.1 INO.out.2.2.2 rfl (by decide) _ _ _ rfl (own_below2 OC2.out (btr (bdrew1 _) (below_alloc _ _))) _ 1 1 (oc o oa c) rfl rfl ?c1 ?c2 ?c3 ?c4 ?c5 ?_)
                  case c1 =>
                    intro j u hj
                    have q9 := src5 (wc.setCell ⟨w.heap.size + 1, 1, none⟩ (.int .i64 ((yy : Int) + (k : Int)))) o oa c 24 j u hj
                    rw [size_set] at q9
                    exact q9
                  case c2 => exact oc_one _ _ _
                  case c3 => have := rops_len RO.out; unfold maxLen; omega
                  case c4 => have := rops_len RO.out; omega
                  case c5 => have := LS.out; have := LB.out; show NN ≤ ((wc.setCell ⟨w.heap.size + 1, 1, none⟩ (.int .i64 ((yy : Int) + (k : Int)))).alloc (.cells #[.int .i64 o.kind, .int .i64 o.a, .int .i64 o.b, .slice oa o.cases.length c, .bool o.def_] 24)).heap.size; have q9 : (wc.setCell ⟨w.heap.size + 1, 1, none⟩ (.int .i64 ((yy : Int) + (k : Int)))).heap.size ≤ ((wc.setCell ⟨w.heap.size + 1, 1, none⟩ (.int .i64 ((yy : Int) + (k : Int)))).alloc (.cells #[.int .i64 o.kind, .int .i64 o.a, .int .i64 o.b, .slice oa o.cases.length c, .bool o.def_] 24)).heap.size := B10.out.size; omega
                  intro v' w6 ho hg _ hat
                  have D10 := hide ((D9.out.below (btr (bdrew1 _) (below_alloc _ _))).grown hg OA.out)
                  have O10 := hide (own_oth (own_below2 OV9.out (btr (bdrew1 _) (below_alloc _ _))) hg (fun x hx => by
                    rcases Nat.lt_or_ge x NN with e | e
                    · exact ON.out x e
                    · exact absurd hx (NL.out x e)))
                  have P10 := hide (PV9.out.keep (w' := w6) (N' := NN) (av' := (Value.slice pa ps.length pc).ownBlock) (fun x hx hx2 _ => by
                    have l1 := LS.out
                    have l2 := LB.out
                    exact (hg.block x (by have := B10.out.size; omega) (fun e => ON.out x hx2 e.symm)).trans (B10.out.block x (by omega))) (Nat.le_refl _) (fun _ _ h => h))
                  have C10 := hide (CA9.out.below B10.out)
                  have hat2 : v'.ownBlock = (Value.slice qa q.length qc).ownBlock ∨ v'.ownBlock = some ((wc.setCell ⟨w.heap.size + 1, 1, none⟩ (.int .i64 ((yy : Int) + (k : Int)))).alloc (.cells #[.int .i64 o.kind, .int .i64 o.a, .int .i64 o.b, .slice oa o.cases.length c, .bool o.def_] 24)).drew.heap.size := by
                    rw [SZ10.out]
                    exact hat
                  have W10 := hide (OW.app B10.out C10.out (fun a e hne => ⟨by have := CAX.out a e; omega, OB.out _ (CAX.out a e), cat_lt C10.out hne a e⟩) h3000 cs2 (own_below2 OC2.out B10.out) OD2.out ho hg hat2)
                  have S10 : Hid (NN ≤ w6.heap.size) := by
                    have q1 := hg.size
                    have l2 := LB.out
                    rw [SZ10.out] at q1
                    show NN ≤ w6.heap.size
                    omega
                  clear ho hg hat hat2
                  go_wp2_with fail
                  go_roundw
                  case rel => exact ⟨i + 1, yy + k, q ++ [o], v', by omega, by go_num, rfl, rops_next RO.out HD.out, hk2, D10.out, O10.out, P10.out, W10.out, S10.out⟩
                  case measure => simp [intOf]; omega
          · have hil' : ¬ ((i : Int) < (mm : Int)) := by omega
            obtain rfl : i = mm := by omega
            obtain ⟨xa, xc, hxe, hxq⟩ := OW.done (B := B) (av := (Value.slice pa ps.length pc).ownBlock) ⟨cs, OC.out, OD.out⟩ NB NL.out
            cases hxe
            have hq32 : q.length ≤ 32 := by have := rops_len RO.out; omega
            have PS := hide (PQ.snoc (c := qc) (PV.out.keep (w' := wb) (N' := wb.heap.size) (fun _ _ _ _ => rfl) hNb (fun _ _ h => h)) hxq hq32)
            have RN := hide (rprogs_next RP.out (RPG.out.trans RO.out))
            have PL8 := hide (rprogs_len RP.out)
            clear hxq OC OD PV
            have q2 := (sc_cells D7.out.sc).2.2.1
            have b5 := below_alloc wb (.cells #[.slice qa q.length qc] 56)
            have O5 := hide (own_below2 OV.out b5)
            have D8 := hide (D7.out.below b5)
            have B5 := hide b5
            have AB := hide (show ∀ x, x ≤ B → (Value.slice pa ps.length pc).ownBlock ≠ some x from fun x hx e => by have := (OV.out.lt _ e).1; omega)
            clear b5 OV D7
            go_wp2_with (at_builtin; (refine wpList_append_own_at _ rfl _ _ 35 rfl (B + 1) 56 i1 (.slice none 0 0) 1 24 Try.underlying35 INP.out.1 INP.out.2.1 INP.out.2.2.1 INP.out.2.2.2 rfl (by decide) _ _ _ rfl O5.out ⟨wb.heap.size, 0, none⟩ 1 1 [.slice qa q.length qc] rfl rfl ?c1 ?c2 ?c3 ?c4 ?c5 ?_))
            try
              case c1 =>
                intro j u hj
                rw [Addr.add_lit, Nat.zero_add, cell_of (heap_new _ _), ← hj]
                simp
            case c2 => first | rfl | (intro u hu; simp at hu; subst hu; rfl)
            case c3 => have := PL8.out; unfold maxLen; omega
            case c4 => have := PL8.out; omega
            case c5 => first | omega | (rw [World.size_alloc]; omega)
            intro v' w6 ho hg _ hat
            obtain ⟨va, vc, hva⟩ := owns_slice ho
            subst hva
            have D9 := hide (D8.out.grown hg AB.out)
            have u2 := (sc_cells D9.out.sc).2.2.1
            have v2 := frozen_of D9.out.sc 2
            have DA := hide (D9.out.set (u0 := .int .i64 (t : Int)) (u1 := .int .i64 (m : Int)) (u2 := (Value.slice va (ps.length + 1) vc)) (u3 := .slice none 0 0) (u4 := .slice none 0 0) 2 (Value.slice va (ps.length + 1) vc) rfl)
            have KK := hide ((De.KB.refl B w6).setCell 2 (Value.slice va (ps.length + 1) vc))
            have OA := hide (owns_kb ho KK.out (fun e => by have := (ho.lt _ e.symm).1; omega))
            have PA : Hid (PQ (w6.setCell ⟨B, 2, none⟩ (Value.slice va (ps.length + 1) vc)) B (w6.setCell ⟨B, 2, none⟩ (Value.slice va (ps.length + 1) vc)).heap.size (Value.slice va (ps.length + 1) vc).ownBlock (vs ++ [.slice qa q.length qc]) (ps ++ [q])) := by
              have gs := hg.size
              rw [World.size_alloc] at gs
              refine PS.out.keep (fun x hx hx2 hav => ?_) (by rw [size_set]; omega) (fun x hx2 hav => ?_)
              · exact (KK.out.block x (by omega) (by omega)).trans ((hg.block x (by rw [World.size_alloc]; omega) (fun e => hav e.symm)).trans (B5.out.block x hx2))
              · rcases hat with e | e
                · rw [e]; exact hav
                · rw [e]
                  intro q9
                  first
                    | (cases q9; omega)
                    | (rw [World.size_alloc] at q9; cases q9; omega)
            clear ho hg hat KK PS O5 D8 B5
            go_wp2_with fail
            go_roundw
            case rel => exact ⟨j + 1, yy, ps ++ [q], vs ++ [.slice qa q.length qc], (Value.slice va (ps.length + 1) vc), by omega, by go_num, RN.out, hyy, DA.out, by rw [List.length_append]; exact OA.out, PA.out⟩
            case measure => simp [intOf]; omega
    · have hlt' : ¬ ((j : Int) < (n : Int)) := by omega
      have hjn : j = n := by omega
      rw [hjn] at RP
      have RG2 : Hid (rsd s = match tl ((nbs s).drop y) 200 with
          | .error _ => none
          | .ok (xs, k5) => match tl ((nbs s).drop (y + k5)) 64 with
            | .error _ => none
            | .ok (ys, k6) => if y + k5 + k6 = s.size ∧ schk ⟨t, m, ps, mv (-1) xs, ys⟩ = 0 then some ⟨t, m, ps, mv (-1) xs, ys⟩ else none) := by
        show _ = _
        (rw [RG.out, RP.out]) <;> rfl
      have sB := D5.out.ne
      have PL8 := hide (rprogs_len RP.out)
      have hBa : B < wa.heap.size := De.heap_lt D5.out.sc
      clear RG
      cases hl : tl ((nbs s).drop y) 200 with
      | error e =>
        have RB : Hid (rsd s = none) := by show _ = _; rw [RG2.out, hl]
        have he : e ≠ 0 := by have := tl_err hl; omega
        have HL := hide hl
        clear hl OV PV
        go_wp2_with fail
        refine (tlist_no s (w.heap.size + 1) y 200 e _ D5.out.tp hy (by omega) HL.out he).mono ?_
        rintro r w4 ⟨rfl, t4, k4⟩
        have D6 := hide (D5.out.read t4 k4)
        clear t4 k4 D5
        obtain ⟨z0, z1, z2, z3, z4⟩ := sc_cells D6.out.zr
        have fz0 := frozen_of D6.out.zr 0
        have fz1 := frozen_of D6.out.zr 1
        have fz2 := frozen_of D6.out.zr 2
        have fz3 := frozen_of D6.out.zr 3
        have fz4 := frozen_of D6.out.zr 4
        go_wp2_with fail
        exact bodyPost_ret (results_row2 Try.results20 _ _ _ _ _ rfl rfl (loadVar_sc (five_set D6.out.zr _ _ _ _ _) rfl)) rfl ⟨.inl ⟨RB.out, rfl⟩, fail_at D6.out _ _ _ _ _⟩
      | ok p =>
        obtain ⟨xs, k5⟩ := p
        have hx200 := (tl_bd hl).2
        have hxb := (tl_bd hl).1
        have hk5 := (tl_size hl).2
        rw [List.length_drop, nbs_length] at hk5
        have HL := hide hl
        have HXB := hide hxb
        clear hl hxb
        go_wp2_with fail
        refine (tlist_ok s (w.heap.size + 1) y 200 xs k5 _ D5.out.tp hy (by omega) HL.out).mono ?_
        rintro r w4 ⟨xa, xc, rfl, ⟨hX, hXb⟩, t4, k4⟩
        have D6 := hide (D5.out.read t4 k4)
        have X6 := hide hX
        have XB := hide hXb
        have K6 : Hid (∀ x, B < x → x < wa.heap.size → w4.heap[x]? = wa.heap[x]?) := fun x h1 h2 => k4.block x h2 (by omega)
        have s6 : wa.heap.size ≤ w4.heap.size := k4.size
        clear t4 k4 D5 hX hXb
        go_wp2_with fail
        go_loopw [104] (fun iv wr => ∃ (i : Nat) (v3 : Value), i ≤ xs.length ∧ iv = .int .i64 i ∧ DB w wr B s (y + k5) (.int .i64 (t : Int)) (.int .i64 (m : Int)) (.slice pa ps.length pc) v3 (.slice none 0 0) ∧ wr.ownsRow w4.heap.size 3 1 v3 i (ic (mv (-1) (xs.take i))) ∧ (∀ x, B < x → x < w4.heap.size → wr.heap[x]? = w4.heap[x]?) ∧ w4.heap.size ≤ wr.heap.size) (fun iv _ => xs.length - (intOf iv).toNat)
        case atStart => exact ⟨0, _, Nat.zero_le _, rfl, D6.out, World.ownsRow_nil _ _ _ _, fun _ _ _ => rfl, Nat.le_refl _⟩
        case round =>
          clear D6
          rename World => wd
          obtain ⟨i, v3, hi, rfl, db, hov, hkp, hsz⟩ := hrel
          obtain ⟨la, lc, rfl⟩ := owns_slice hov
          have D7 := hide db
          have O7 := hide hov
          have K7 := hide hkp
          clear db hov hkp
          by_cases hil : i < xs.length
          · have hil' : (i : Int) < (xs.length : Int) := by omega
            have X7 : At wd xa xs := at_keep X6.out (fun a e h0 => K7.out _ (by have := XB.out a e; omega) (at_lt X6.out h0 a e))
            obtain ⟨xb, xo, rfl, hcx⟩ := X7 i hil
            have hnb := HXB.out (nth xs i) (by rw [nth_lt xs i hil]; exact List.getElem_mem _)
            have MT := hide (mv_take xs i hil)
            clear X7
            generalize nth xs i = x0 at hcx hnb MT
            have q3 := (sc_cells D7.out.sc).2.2.2.1
            have b5 := below_alloc wd (.cells #[.int .i64 (x0 - 1)] 3)
            have O5 := hide (own_below2 O7.out b5)
            have D8 := hide (D7.out.below b5)
            have B5 := hide b5
            have AB := hide (show ∀ x, x < w4.heap.size → (Value.slice la i lc).ownBlock ≠ some x from fun x hx e => by have := (O7.out.lt _ e).1; omega)
            clear b5 O7 D7
            go_wp2_with (at_builtin; refine wpList_append_own _ rfl _ _ 36 rfl w4.heap.size 3 i2 (.int .i64 0) 1 8 Try.underlying36 INI.out.1 INI.out.2.1 INI.out.2.2.1 INI.out.2.2.2 rfl (by decide) _ _ _ rfl O5.out ⟨wd.heap.size, 0, none⟩ 1 1 [.int .i64 (x0 - 1)] rfl rfl ?d1 ?d2 ?d3 ?d4 ?d5 ?_)
            try
              case d1 =>
                intro j u hj
                rw [Addr.add_lit, Nat.zero_add, cell_of (heap_new _ _), ← hj]
                simp
            case d2 => first | rfl | (intro u hu; simp at hu; subst hu; rfl)
            case d3 => unfold maxLen; omega
            case d4 => omega
            case d5 => first | omega | (rw [World.size_alloc]; omega)
            intro v' w6 ho hg _
            obtain ⟨va, vc, hva⟩ := owns_slice ho
            subst hva
            have D9 := hide (D8.out.grown hg (fun x hx => AB.out x (by omega)))
            have u3 := (sc_cells D9.out.sc).2.2.2.1
            have v3 := frozen_of D9.out.sc 3
            have DA := hide (D9.out.set (u0 := .int .i64 (t : Int)) (u1 := .int .i64 (m : Int)) (u2 := .slice pa ps.length pc) (u3 := (Value.slice va (i + 1) vc)) (u4 := .slice none 0 0) 3 (Value.slice va (i + 1) vc) rfl)
            have KK := hide ((De.KB.refl B w6).setCell 3 (Value.slice va (i + 1) vc))
            have OA := hide (owns_kb ho KK.out (fun e => by have := (ho.lt _ e.symm).1; omega))
            have gs := hg.size
            rw [World.size_alloc] at gs
            have KA : Hid (∀ x, B < x → x < w4.heap.size → (w6.setCell ⟨B, 3, none⟩ (Value.slice va (i + 1) vc)).heap[x]? = w4.heap[x]?) := fun x h1 h2 =>
              (KK.out.block x (by omega) (by omega)).trans ((hg.block x (by rw [World.size_alloc]; omega) (fun e => AB.out x h2 e.symm)).trans ((B5.out.block x (by omega)).trans (K7.out x h1 h2)))
            have SA : Hid (w4.heap.size ≤ (w6.setCell ⟨B, 3, none⟩ (Value.slice va (i + 1) vc)).heap.size) := by show _ ≤ _; rw [size_set]; omega
            clear ho hg KK O5 D8 B5
            go_wp2_with fail
            go_roundw
            case rel => exact ⟨i + 1, (Value.slice va (i + 1) vc), by omega, by go_num, DA.out, by rw [MT.out, ic_app]; exact OA.out, KA.out, SA.out⟩
            case measure => simp [intOf]; omega
          · have hil' : ¬ ((i : Int) < (xs.length : Int)) := by omega
            obtain rfl : i = xs.length := by omega
            rw [List.take_of_length_le (Nat.le_refl _)] at O7
            have OL : Hid (wd.ownsRow w4.heap.size 3 1 (.slice la xs.length lc) (mv (-1) xs).length (ic (mv (-1) xs))) := by
              show World.ownsRow _ _ _ _ _ _ _
              rw [mv_len]
              exact O7.out
            obtain ⟨la', lc', hle, hLA, hLB⟩ := own_at OL.out
            rw [mv_len] at hle
            cases hle
            have LA := hide hLA
            have LB := hide hLB
            clear hLA hLB O7 OL
            have P7 := hide (PV.out.keep (w' := wd) (N' := wa.heap.size) (av' := (Value.slice pa ps.length pc).ownBlock) (fun x h1 h2 _ => (K7.out x h1 (by omega)).trans (K6.out x h1 h2)) (Nat.le_refl _) (fun _ _ h => h))
            have O7 := hide (own_keep (w' := wd) OV.out (fun g e => by
              have l1 := OV.out.lt _ e
              exact (K7.out g (by omega) (by omega)).trans (K6.out g (by omega) (by omega))))
            clear PV OV K6 K7 X6 XB
            have hy2 : y + k5 ≤ s.size := by omega
            have sBd : B < wd.heap.size := De.heap_lt D7.out.sc
            cases hl2 : tl ((nbs s).drop (y + k5)) 64 with
            | error e =>
              have RB : Hid (rsd s = none) := by
                show _ = _
                rw [RG2.out, HL.out]
                simp only
                rw [hl2]
              have he : e ≠ 0 := by have := tl_err hl2; omega
              have HL2 := hide hl2
              clear hl2 LA LB P7 O7
              go_wp2_with fail
              refine (tlist_no s (w.heap.size + 1) (y + k5) 64 e _ D7.out.tp hy2 (by omega) HL2.out he).mono ?_
              rintro r w5 ⟨rfl, t5, kb5⟩
              have D8 := hide (D7.out.read t5 kb5)
              clear t5 kb5 D7
              have q4 := (sc_cells D8.out.sc).2.2.2.2
              have f4 := frozen_of D8.out.sc 4
              have D9 := hide (D8.out.set (u0 := .int .i64 (t : Int)) (u1 := .int .i64 (m : Int)) (u2 := .slice pa ps.length pc) (u3 := .slice la xs.length lc) (u4 := .slice none 0 0) 4 (.slice none 0 0) rfl)
              have hzB : w.heap.size ≠ B := by omega
              obtain ⟨za0, za1, za2, za3, za4⟩ := sc_cells D8.out.zr
              have fa0 := frozen_of D8.out.zr 0
              have fa1 := frozen_of D8.out.zr 1
              have fa2 := frozen_of D8.out.zr 2
              have fa3 := frozen_of D8.out.zr 3
              have fa4 := frozen_of D8.out.zr 4
              obtain ⟨z0, z1, z2, z3, z4⟩ := sc_cells D9.out.zr
              have fz0 := frozen_of D9.out.zr 0
              have fz1 := frozen_of D9.out.zr 1
              have fz2 := frozen_of D9.out.zr 2
              have fz3 := frozen_of D9.out.zr 3
              have fz4 := frozen_of D9.out.zr 4
              go_wp2_with fail
              exact bodyPost_ret (results_row2 Try.results20 _ _ _ _ _ rfl rfl (loadVar_sc (five_set D9.out.zr _ _ _ _ _) rfl)) rfl ⟨.inl ⟨RB.out, rfl⟩, fail_at D9.out _ _ _ _ _⟩
            | ok p2 =>
              obtain ⟨ys, k6⟩ := p2
              have hy64 := (tl_bd hl2).2
              have hk6 := (tl_size hl2).2
              rw [List.length_drop, nbs_length] at hk6
              have HL2 := hide hl2
              clear hl2
              go_wp2_with fail
              refine (tlist_ok s (w.heap.size + 1) (y + k5) 64 ys k6 _ D7.out.tp hy2 (by omega) HL2.out).mono ?_
              rintro r w5 ⟨da, dc, rfl, ⟨hY, hYb⟩, t5, kb5⟩
              have D8 := hide (D7.out.read t5 kb5)
              have Y8 := hide hY
              have YB : Hid (∀ a, da = some a → B < a.block) := fun a e => by have := hYb a e; omega
              have LB2 : Hid (∀ a, la = some a → B < a.block) := fun a e => by have := LB.out a e; omega
              have K8 : Hid (∀ x, B < x → x < wd.heap.size → w5.heap[x]? = wd.heap[x]?) := fun x h1 h2 => kb5.block x h2 (by omega)
              have s8 : wd.heap.size ≤ w5.heap.size := kb5.size
              clear t5 kb5 hY hYb D7 LB
              have q4 := (sc_cells D8.out.sc).2.2.2.2
              have f4 := frozen_of D8.out.sc 4
              have D9 := hide (D8.out.set (u0 := .int .i64 (t : Int)) (u1 := .int .i64 (m : Int)) (u2 := .slice pa ps.length pc) (u3 := .slice la xs.length lc) (u4 := .slice da ys.length dc) 4 (.slice da ys.length dc) rfl)
              have KB9 := hide ((De.KB.refl B w5).setCell 4 (.slice da ys.length dc))
              have hGB : w.heap.size + 1 ≠ B := by omega
              have tc := cell_of D8.out.tp 1
              have tc9 := cell_of D9.out.tp 1
              simp at tc tc9
              by_cases hend : y + k5 + k6 = s.size
              · have hendI : ((((y + k5 + k6 : Nat) : Int)) != (s.size : Int)) = false := by simp; omega
                have SZ := hide (show (w5.setCell ⟨B, 4, none⟩ (.slice da ys.length dc)).heap.size = w5.heap.size from size_set _ _ _)
                have K9 : Hid (∀ x, B < x → x < w5.heap.size → (w5.setCell ⟨B, 4, none⟩ (.slice da ys.length dc)).heap[x]? = w5.heap[x]?) := fun x h1 h2 => KB9.out.block x h2 (by omega)
                have SA9 : Hid (SAt (w5.setCell ⟨B, 4, none⟩ (.slice da ys.length dc)) ⟨(t : Int), (m : Int), ps, mv (-1) xs, ys⟩ pa la da) :=
                  sat_of P7.out O7.out (by omega) LA.out LB2.out Y8.out YB.out (fun x h1 h2 => (K9.out x h1 (by omega)).trans (K8.out x h1 h2)) K9.out (by have := PL8.out; unfold maxLen; omega) (by rw [mv_len]; unfold maxLen; omega) (by unfold maxLen; omega)
                obtain ⟨e0, e1, e2, e3, e4⟩ := sc_cells D9.out.sc
                obtain ⟨c, hc⟩ : ∃ c, schk ⟨(t : Int), (m : Int), ps, mv (-1) xs, ys⟩ = c := ⟨_, rfl⟩
                have RC := hide (fun u (h : SAt u ⟨(t : Int), (m : Int), ps, mv (-1) xs, ys⟩ pa la da) => rscheck_any (t : Int) (m : Int) ps (mv (-1) xs) ys pa la da pc lc dc u h)
                rw [hc, mv_len] at RC
                have HC := hide hc
                clear hc
                go_wp2_with fail
                generalize w5.setCell ⟨B, 4, none⟩ (.slice da ys.length dc) = W9 at D9 K9 SA9 SZ ⊢
                clear q4 f4 e0 e1 e2 e3 e4 tc tc9 KB9
                refine (RC.out _ SA9.out).mono ?_
                rintro r w6 ⟨rfl, b6⟩
                have D10 := hide (D9.out.below b6)
                have K10 : Hid (∀ x, B < x → x < w5.heap.size → w6.heap[x]? = w5.heap[x]?) := fun x h1 h2 => (b6.block x (by have := SZ.out; omega)).trans (K9.out x h1 h2)
                have s10 : w5.heap.size ≤ w6.heap.size := by have := b6.size; have := SZ.out; omega
                clear b6 D9 K9 SA9 SZ RC
                by_cases hc0 : c = 0
                · subst hc0
                  have RB : Hid (rsd s = some ⟨(t : Int), (m : Int), ps, mv (-1) xs, ys⟩) := by
                    show _ = _
                    rw [RG2.out, HL.out]
                    simp only
                    rw [HL2.out]
                    simp only
                    exact if_pos ⟨hend, HC.out⟩
                  obtain ⟨e0, e1, e2, e3, e4⟩ := sc_cells D10.out.sc
                  obtain ⟨z0, z1, z2, z3, z4⟩ := sc_cells D10.out.zr
                  have fz0 := frozen_of D10.out.zr 0
                  have fz1 := frozen_of D10.out.zr 1
                  have fz2 := frozen_of D10.out.zr 2
                  have fz3 := frozen_of D10.out.zr 3
                  have fz4 := frozen_of D10.out.zr 4
                  have KZ := hide ((((((De.KB.refl w.heap.size w6).setCell 0 (.int .i64 (t : Int))).setCell 1 (.int .i64 (m : Int))).setCell 2 (.slice pa ps.length pc)).setCell 3 (.slice la xs.length lc)).setCell 4 (.slice da ys.length dc))
                  have SAF := hide (sat_of (T := (t : Int)) (M := (m : Int)) P7.out O7.out (by omega) LA.out LB2.out Y8.out YB.out (fun x h1 h2 => (KZ.out.block x (by omega) (by omega)).trans ((K10.out x h1 (by omega)).trans (K8.out x h1 h2))) (fun x h1 h2 => (KZ.out.block x (by omega) (by omega)).trans (K10.out x h1 h2)) (by have := PL8.out; unfold maxLen; omega) (by rw [mv_len]; unfold maxLen; omega) (by unfold maxLen; omega))
                  go_wp2_with fail
                  exact bodyPost_ret (results_row2 Try.results20 _ _ _ _ _ rfl rfl (loadVar_sc (five_set D10.out.zr _ _ _ _ _) rfl)) rfl ⟨.inr ⟨_, _, ps, mv (-1) xs, ys, pa, pc, la, lc, da, dc, RB.out, by rw [mv_len]; rfl, SAF.out⟩, fail_at D10.out _ _ _ _ _⟩
                · have RB : Hid (rsd s = none) := by
                    show _ = _
                    rw [RG2.out, HL.out]
                    simp only
                    rw [HL2.out]
                    simp only
                    exact if_neg (fun q => hc0 (HC.out.symm.trans q.2))
                  have hcb : (c != 0) = true := by simpa using hc0
                  obtain ⟨z0, z1, z2, z3, z4⟩ := sc_cells D10.out.zr
                  have fz0 := frozen_of D10.out.zr 0
                  have fz1 := frozen_of D10.out.zr 1
                  have fz2 := frozen_of D10.out.zr 2
                  have fz3 := frozen_of D10.out.zr 3
                  have fz4 := frozen_of D10.out.zr 4
                  go_wp2_with fail
                  exact bodyPost_ret (results_row2 Try.results20 _ _ _ _ _ rfl rfl (loadVar_sc (five_set D10.out.zr _ _ _ _ _) rfl)) rfl ⟨.inl ⟨RB.out, rfl⟩, fail_at D10.out _ _ _ _ _⟩
              · have hendI : ((((y + k5 + k6 : Nat) : Int)) != (s.size : Int)) = true := by simp; omega
                have RB : Hid (rsd s = none) := by
                  show _ = _
                  rw [RG2.out, HL.out]
                  simp only
                  rw [HL2.out]
                  simp only
                  exact if_neg (fun q => hend q.1)
                have hzB : w.heap.size ≠ B := by omega
                obtain ⟨za0, za1, za2, za3, za4⟩ := sc_cells D8.out.zr
                have fa0 := frozen_of D8.out.zr 0
                have fa1 := frozen_of D8.out.zr 1
                have fa2 := frozen_of D8.out.zr 2
                have fa3 := frozen_of D8.out.zr 3
                have fa4 := frozen_of D8.out.zr 4
                obtain ⟨z0, z1, z2, z3, z4⟩ := sc_cells D9.out.zr
                have fz0 := frozen_of D9.out.zr 0
                have fz1 := frozen_of D9.out.zr 1
                have fz2 := frozen_of D9.out.zr 2
                have fz3 := frozen_of D9.out.zr 3
                have fz4 := frozen_of D9.out.zr 4
                go_wp2_with fail
                exact bodyPost_ret (results_row2 Try.results20 _ _ _ _ _ rfl rfl (loadVar_sc (five_set D9.out.zr _ _ _ _ _) rfl)) rfl ⟨.inl ⟨RB.out, rfl⟩, fail_at D9.out _ _ _ _ _⟩
end Sh
end Go.Proofs.Ytocmdehpbipmlaa
/- SheetDecodes' walk, over whatever the reference's Decode keeps to. -/
namespace Go.Proofs.Ytocmdehpbipmlaa
open Go.ChangeShapes Go.WideShapes Go.ChangeAt Go.RowKit
namespace Sh
open De Ba Re

theorem sat_zero (w : World) : SAt w ⟨0, 0, [], [], []⟩ none none none := by
  exact ⟨PAt.nil _ _, At.nil _ _, At.nil _ _, by simp, by simp, by simp⟩
theorem small_zero : Small [] [] [] := ⟨by simp, by simp, by simp, by simp, by simp⟩
set_option maxRecDepth 100000 in
set_option maxHeartbeats 3200000 in
theorem decodes_core (RD : ∀ (s : ByteArray) (u : World), s.size ≤ 5000 → Calls Try.prog 20 #[.string s] u fun r w' => RS (rsd s) r w' ∧ Below u.heap.size u w') {w : World} (b : ByteArray) (hb : b.size ≤ maxLen) :
    Calls Try.prog 5 #[.string b] w fun r w' => r = .returned (.bool true) ∧ Below w.heap.size w w' := by
  unfold maxLen at hb
  have B1 := hide (Below.refl w.heap.size w)
  by_cases hl : 5000 < b.size
  · have hl' : decide ((5000 : Int) < (b.size : Int)) = true := by simp; omega
    clear RD
    go_enter Try.func5, Try.ntmps5
    go_wp2_with fail
    refine (exits_any _).mono ?_
    rintro r w2 ⟨rfl, b2⟩
    have B2 := hide (btr B1.out b2)
    clear b2
    go_wp2_with fail
    go_ret
    exact ⟨rfl, B2.out⟩
  have hl' : decide ((5000 : Int) < (b.size : Int)) = false := by simp; omega
  have RDH := hide fun u => RD b u (by omega)
  rw [rsd_sdec] at RDH
  clear RD
  cases hd : sdec b
  case none =>
    have DE := hide fun u => decode_no b hd u (by omega)
    rw [hd] at RDH
    clear hd
    go_enter Try.func5, Try.ntmps5
    go_wp2_with fail
    refine (DE.out _).mono ?_
    rintro r w2 ⟨rfl, b2⟩
    have b3 := below_alloc w2 (.cells #[.int .i64 0, .int .i64 0, .slice none 0 0, .slice none 0 0, .slice none 0 0] 38)
    have B2 := hide (btr (btr B1.out b2) b3)
    have X2 := hide (heap_new w2 (.cells #[.int .i64 0, .int .i64 0, .slice none 0 0, .slice none 0 0, .slice none 0 0] 38))
    clear b2 b3 DE B1
    go_wp2_with fail
    generalize w2.alloc (.cells #[.int .i64 0, .int .i64 0, .slice none 0 0, .slice none 0 0, .slice none 0 0] 38) = W2 at B2 X2 ⊢
    generalize w2.heap.size = N at X2 ⊢
    refine (RDH.out _).mono ?_
    rintro r w3 ⟨h3, b3⟩
    rcases h3 with ⟨_, rfl⟩ | ⟨_, _, _, _, _, _, _, _, _, _, _, h, _⟩
    · have b4 := below_alloc w3 (.cells #[.int .i64 0, .int .i64 0, .slice none 0 0, .slice none 0 0, .slice none 0 0] 38)
      have B3 := hide (btr B2.out (btr b3 b4))
      have X3 := hide (heap_below X2.out (btr b3 b4))
      have Y3 := hide (heap_new w3 (.cells #[.int .i64 0, .int .i64 0, .slice none 0 0, .slice none 0 0, .slice none 0 0] 38))
      clear b3 b4 B2 X2 RDH
      obtain ⟨x0, x1, x2, x3, x4⟩ := sc_cells X3.out
      obtain ⟨y0, y1, y2, y3, y4⟩ := sc_cells Y3.out
      go_wp2_with fail
      refine (script_any 0 0 [] [] [] 0 0 [] [] [] none none none none none none 0 0 0 0 0 0 _ (sat_zero _) (sat_zero _) small_zero small_zero).mono ?_
      rintro r w4 ⟨⟨y, rfl, hy⟩, b4⟩
      obtain rfl : y = true := hy.2 rfl
      have B4 := hide (btr B3.out b4)
      clear b4 hy B3 X3 Y3 x0 x1 x2 x3 x4 y0 y1 y2 y3 y4
      go_wp2_with fail
      refine (exits_any _).mono ?_
      rintro r w5 ⟨rfl, b5⟩
      have B5 := hide (btr B4.out b5)
      clear b5
      go_wp2_with fail
      go_ret
      exact ⟨rfl, B5.out⟩
    · cases h
  case some x =>
    obtain ⟨T, M, ps, pl, dr⟩ := x
    have SM := hide (schk_small (sdec_bytes hd).2)
    have DE := hide fun u => decode_is b T M ps pl dr hd u (by omega)
    rw [hd] at RDH
    clear hd
    go_enter Try.func5, Try.ntmps5
    go_wp2_with fail
    refine (DE.out _).mono ?_
    rintro r w2 ⟨⟨pa2, la2, da2, pc2, lc2, dc2, rfl, hA⟩, b2⟩
    have b3 := below_alloc w2 (.cells #[.int .i64 T, .int .i64 M, .slice pa2 ps.length pc2, .slice la2 pl.length lc2, .slice da2 dr.length dc2] 38)
    have B2 := hide (btr (btr B1.out b2) b3)
    have X2 := hide (heap_new w2 (.cells #[.int .i64 T, .int .i64 M, .slice pa2 ps.length pc2, .slice la2 pl.length lc2, .slice da2 dr.length dc2] 38))
    have A2 := hide (hA.below b3)
    clear b2 b3 DE B1 hA
    go_wp2_with fail
    generalize w2.alloc (.cells #[.int .i64 T, .int .i64 M, .slice pa2 ps.length pc2, .slice la2 pl.length lc2, .slice da2 dr.length dc2] 38) = W2 at B2 X2 A2 ⊢
    generalize w2.heap.size = N at X2 ⊢
    refine (RDH.out _).mono ?_
    rintro r w3 ⟨h3, b3⟩
    rcases h3 with ⟨h, _⟩ | ⟨T', M', ps', pl', dr', pa3, pc3, la3, lc3, da3, dc3, h, rfl, hA⟩
    · cases h
    · cases h
      have b4 := below_alloc w3 (.cells #[.int .i64 T, .int .i64 M, .slice pa3 ps.length pc3, .slice la3 pl.length lc3, .slice da3 dr.length dc3] 38)
      have B3 := hide (btr B2.out (btr b3 b4))
      have X3 := hide (heap_below X2.out (btr b3 b4))
      have Y3 := hide (heap_new w3 (.cells #[.int .i64 T, .int .i64 M, .slice pa3 ps.length pc3, .slice la3 pl.length lc3, .slice da3 dr.length dc3] 38))
      have A3 := hide (A2.out.below (btr b3 b4))
      have C3 := hide (hA.below b4)
      clear b3 b4 B2 X2 RDH A2 hA
      obtain ⟨x0, x1, x2, x3, x4⟩ := sc_cells X3.out
      obtain ⟨y0, y1, y2, y3, y4⟩ := sc_cells Y3.out
      go_wp2_with fail
      refine (script_any T M ps pl dr T M ps pl dr _ _ _ _ _ _ _ _ _ _ _ _ _ A3.out C3.out SM.out SM.out).mono ?_
      rintro r w4 ⟨⟨y, rfl, hy⟩, b4⟩
      obtain rfl : y = true := hy.2 rfl
      have B4 := hide (btr B3.out b4)
      clear b4 hy B3 X3 Y3 x0 x1 x2 x3 x4 y0 y1 y2 y3 y4 A3 C3
      go_wp2_with fail
      refine (exits_any _).mono ?_
      rintro r w5 ⟨rfl, b5⟩
      have B5 := hide (btr B4.out b5)
      clear b5
      go_wp2_with fail
      go_ret
      exact ⟨rfl, B5.out⟩
end Sh
end Go.Proofs.Ytocmdehpbipmlaa
