/- Package clock: Of of any list in one contract; and the laws' own joins(), over this seat's program. -/
import Derived.Test.YtkgddkpolckacaaCp
namespace Go.Proofs.Ytkgddkpolckacaa
open Go.ChangeShapes Go.WideShapes Go.ChangeAt Go.RowKit
namespace Ck

theorem Rep.below {w w' : World} {b : Nat} {l : List Int} {s : Bool} {g : Option Nat} {cap : Nat} (h : Rep w b l s g cap) (hb : Below w.heap.size w w') : Rep w' b l s g cap :=
  h.keep (hb.block b h.lt) fun x hx => hb.block x (h.glt hx)

/-- a clock of the numbers l of its own, at A, its numbers at G -/
def Fresh (w w' : World) (l : List Int) (A : Nat) : Prop := ∃ G cap, Rep w' A l false (some G) cap ∧ w.heap.size ≤ A ∧ w.heap.size ≤ G ∧ A < w'.heap.size ∧ G < w'.heap.size ∧ Below w.heap.size w w'

theorem CK.len {w : World} {b : Nat} {l : List Int} (h : CK w b l) : l.length ≤ 256 := by
  obtain ⟨_, _, _, _, _, _, h⟩ := h
  exact h

theorem of_fresh (oa : Option Addr) (l : List Int) (n c : Nat) (hn : l.length = n) (w : World) (hA : At w oa l) (hl : n ≤ 256) (hlc : n ≤ c) (hc : c ≤ maxLen) (hv : Valid l) :
    Calls Try.prog 36 #[.slice oa n c] w fun r w' => ∃ A, r = .returned (.tuple #[.pointer (some ⟨A, 0, none⟩), .int .i64 0]) ∧ Fresh w w' (trm l) A := by
  subst hn
  refine (of_rep oa l c w hA hl hlc hc hv).mono ?_
  rintro r w' ⟨rfl, h1, h2, h3⟩
  exact ⟨_, rfl, _, _, h1, by omega, Nat.le_refl _, by omega, by omega, h2⟩

/-- what Of answers: p and e, of l -/
def OfIs (w w' : World) (l : List Int) (p : Option Addr) (e : Int) : Prop :=
  (w' = w ∧ p = none ∧ (e == 0) = false ∧ (e != 0) = true ∧ ¬ (l.length ≤ 256 ∧ Valid l)) ∨ (e = 0 ∧ l.length ≤ 256 ∧ Valid l ∧ ∃ A, p = some ⟨A, 0, none⟩ ∧ Fresh w w' (trm l) A)

theorem of_any (oa : Option Addr) (l : List Int) (n c : Nat) (hn : l.length = n) (w : World) (hA : At w oa l) (hlc : n ≤ c) (hc : c ≤ maxLen) :
    Calls Try.prog 36 #[.slice oa n c] w fun r w' => ∃ p e, r = .returned (.tuple #[.pointer p, .int .i64 e]) ∧ OfIs w w' l p e := by
  subst hn
  by_cases h1 : l.length ≤ 256
  · by_cases hv : Valid l
    · refine (of_fresh oa l _ c rfl w hA h1 hlc hc hv).mono ?_
      rintro r w' ⟨A, rfl, hf⟩
      exact ⟨_, _, rfl, .inr ⟨rfl, h1, hv, A, rfl, hf⟩⟩
    · refine (of_bad oa l c w hA h1 hv).mono ?_
      rintro r w' ⟨rfl, rfl⟩
      exact ⟨_, _, rfl, .inl ⟨rfl, rfl, by decide, by decide, fun q => hv q.2⟩⟩
  · refine (of_long oa l.length c w (by omega) (by omega)).mono ?_
    rintro r w' ⟨rfl, rfl⟩
    exact ⟨_, _, rfl, .inl ⟨rfl, rfl, by decide, by decide, fun q => h1 q.1⟩⟩

theorem OfIs.below {w w' : World} {l : List Int} {p : Option Addr} {e : Int} (h : OfIs w w' l p e) : Below w.heap.size w w' := by
  rcases h with ⟨rfl, _⟩ | ⟨_, _, _, A, _, G, cap, _, _, _, _, _, hb⟩
  · exact Below.refl _ _
  · exact hb

theorem btr {a b c : World} (h : Below a.heap.size a b) (k : Below b.heap.size b c) : Below a.heap.size a c := h.trans (k.mono h.size)
theorem below_alloc (w : World) (o : Obj) : Below w.heap.size w (w.alloc o) := (Below.refl _ _).alloc (Nat.le_refl _) _
theorem bdrew (w : World) (q : Nat) : Below w.heap.size w (w.drewN q) := ⟨rfl, rfl, rfl, Nat.le_refl _, fun _ _ => rfl⟩

theorem At.lit (w : World) (l : List Int) (t : TypeId) (c : Array Value) (h : c = row l) : At (w.alloc (.cells c t)) (some ⟨w.heap.size, 0, none⟩) l := by
  subst h
  exact At.new w l t

theorem jr_lit (l' : List Int) (x : Bool) (hn : ∀ j, nth l' j = if j < 2 then max (nth [3, 0, 2] j) (nth [1, 4] j) else nth [3, 0, 2] j)
    (hx : (x = true ∧ l'.length = max [(3 : Int), 0, 2].length [(1 : Int), 4].length ∧ ∃ j, nth [3, 0, 2] j < nth [1, 4] j) ∨ (x = false ∧ l' = [3, 0, 2] ∧ ∀ j, j < 2 → nth [1, 4] j ≤ nth [3, 0, 2] j)) : x = true ∧ l' = [3, 4, 2] := by
  rcases hx with ⟨rfl, hl, _⟩ | ⟨_, _, h⟩
  · refine ⟨rfl, eq_of_nth hl fun j hj => ?_⟩
    rw [hn j]
    rw [hl] at hj
    match j, hj with
    | 0, _ => decide
    | 1, _ => decide
    | 2, _ => decide
  · exact absurd (h 1 (by decide)) (by decide)

theorem ints_is (oa ob : Option Addr) (l m : List Int) (n k c d : Nat) (x : Bool) (hx : decide (l = m) = x) (hn : l.length = n) (hk : m.length = k) (w : World) (hA : At w oa l) (hB : At w ob m) (hl : n ≤ 256) (hm : k ≤ 256) :
    Calls Try.prog 19 #[.slice oa n c, .slice ob k d] w fun r w' => r = .returned (.bool x) ∧ ∃ q, w' = w.drewN q := by
  subst hn hk hx
  exact ints_any oa ob l m c d w hA hB hl hm
theorem within_is (b b2 : Nat) (l m : List Int) (x : Bool) (hx : within l m = x) (w : World) (h : CK w b l) (h2 : CK w b2 m) :
    Calls Try.prog 24 #[.pointer (some ⟨b, 0, none⟩), .pointer (some ⟨b2, 0, none⟩)] w fun r w' => r = .returned (.bool x) ∧ w' = w := by
  subst hx
  exact within_any b b2 l m w h h2

set_option maxHeartbeats 1600000 in
theorem joins_any (w : World) :
    Calls Try.prog 10 #[] w fun r w' => r = .returned (.bool true) ∧ Below w.heap.size w w' := by
  go_enter Try.func10, Try.ntmps10
  go_wp2_with fail
  refine (of_fresh _ [3, 0, 2] _ _ (by rfl) _ (At.lit _ _ _ _ (by rfl)) (by decide) (by decide) (by decide) (by unfold Valid; decide)).mono ?_
  rintro r w1 ⟨A, rfl, hA⟩
  have HA := hide hA
  clear hA
  go_wp2_with fail
  refine (of_fresh _ [1, 4] _ _ (by rfl) _ (At.lit _ _ _ _ (by rfl)) (by decide) (by decide) (by decide) (by unfold Valid; decide)).mono ?_
  rintro r w2 ⟨B, rfl, hB⟩
  have HB := hide hB
  clear hB
  go_wp2_with fail
  obtain ⟨GA, ca, ra, a1, a2, a3, a4, a5⟩ := HA.out
  obtain ⟨GB, cb, rb, b1, b2, b3, b4, b5⟩ := HB.out
  have e1 : trm [3, 0, 2] = [3, 0, 2] := by decide
  have e2 : trm [1, 4] = [1, 4] := by decide
  rw [e1] at ra
  rw [e2] at rb
  have ra2 := (ra.below (below_alloc w1 (.cells #[Value.int .i64 1, .int .i64 4] 3))).below b5
  simp at b1 b2 a1 a2
  have ap : Apart A false (some GA) B (some GB) := ⟨by omega, by simp; omega, fun _ x hx => by simp at hx; subst hx; exact ⟨by omega, by simp; omega⟩⟩
  have BB : Hid (Below w.heap.size w w2) := btr (btr (below_alloc w _) a5) (btr (below_alloc w1 _) b5)
  refine (join_any A B [3, 0, 2] [1, 4] false false (some GA) (some GB) ca cb w2 ra2 rb ap).mono ?_
  clear e1 e2 HA HB ra rb
  rintro r w3 ⟨x, rfl, l', s', g', cap', r1, r2, hn, hx, nx, fr⟩
  obtain ⟨rfl, rfl⟩ := jr_lit l' x hn hx
  have R1 := hide r1.ck
  have R2 := hide r2.ck
  have B3 : Hid (Below w.heap.size w w3) := BB.out.trans (fr.below (by have := BB.out.size; omega) (fun k hk => by
    rcases hk with rfl | ⟨_, hk⟩
    · omega
    · simp at hk; omega))
  clear hn hx nx fr r1 r2 ra2 ap a1 a2 a3 a4 a5 b1 b2 b3 b4 b5
  go_wp2_with fail
  refine (list_any A [3, 4, 2] _ R1.out).mono ?_
  rintro r w4 ⟨rfl, hw4⟩
  have A4 : Hid (At w4 (some ⟨w3.heap.size, 0, none⟩) [3, 4, 2]) := by show At _ _ _; rw [hw4]; exact At.new _ _ _
  have B4 : Hid (Below w3.heap.size w3 w4) := by show Below _ _ _; rw [hw4]; exact below_alloc _ _
  clear hw4
  go_wp2_with fail
  refine (ints_is _ _ [3, 4, 2] [3, 4, 2] _ _ _ _ true (by decide) (by rfl) (by rfl) _ (A4.out.below (below_alloc _ _)) (At.lit _ _ _ _ (by rfl)) (by decide) (by decide)).mono ?_
  rintro r w5 ⟨rfl, q, hw5⟩
  have B5 : Hid (Below w3.heap.size w3 w5) := by show Below _ _ _; rw [hw5]; exact btr (btr B4.out (below_alloc _ _)) (bdrew _ _)
  clear hw5
  go_wp2_with fail
  refine (within_is B A [1, 4] [3, 4, 2] true (by decide) _ (R2.out.below B5.out) (R1.out.below B5.out)).mono ?_
  rintro r w6 ⟨rfl, rfl⟩
  go_wp2_with fail
  refine (within_is A B [3, 4, 2] [1, 4] false (by decide) _ (R1.out.below B5.out) (R2.out.below B5.out)).mono ?_
  rintro r w6 ⟨rfl, rfl⟩
  go_wp2
  go_ret
  exact ⟨rfl, btr B3.out B5.out⟩
end Ck
end Go.Proofs.Ytkgddkpolckacaa
