/- Package clock: Of of any list in one contract; and the laws' own joins(), over this seat's program. -/
import Derived.Test.YtakbbhngcdccpaaGreatCp
namespace Go.Proofs.YtakbbhngcdccpaaGreat
open Go.ChangeShapes Go.WideShapes Go.ChangeAt Go.RowKit
namespace Ck

theorem Rep.below {w w' : World} {b : Nat} {l : List Int} {s : Bool} {g : Option Nat} {cap : Nat} (h : Rep w b l s g cap) (hb : Below w.heap.size w w') : Rep w' b l s g cap :=
  h.keep (hb.block b h.lt) fun x hx => hb.block x (h.glt hx)

/-- a clock of the numbers l of its own, at A, its numbers at G -/
def Fresh (w w' : World) (l : List Int) (A : Nat) : Prop := ∃ G cap, Rep w' A l false (some G) cap ∧ w.heap.size ≤ A ∧ w.heap.size ≤ G ∧ A < w'.heap.size ∧ G < w'.heap.size ∧ Below w.heap.size w w'

theorem CK.len {w : World} {b : Nat} {l : List Int} (h : CK w b l) : l.length ≤ 256 := by
  obtain ⟨_, _, _, _, _, _, h⟩ := h
  exact h

/-- what Of answers: p and e, of l -/
def OfIs (w w' : World) (l : List Int) (p : Option Addr) (e : Int) : Prop :=
  (w' = w ∧ p = none ∧ (e == 0) = false ∧ (e != 0) = true ∧ ¬ (l.length ≤ 256 ∧ Valid l)) ∨ (e = 0 ∧ l.length ≤ 256 ∧ Valid l ∧ ∃ A, p = some ⟨A, 0, none⟩ ∧ Fresh w w' (trm l) A)

theorem OfIs.below {w w' : World} {l : List Int} {p : Option Addr} {e : Int} (h : OfIs w w' l p e) : Below w.heap.size w w' := by
  rcases h with ⟨rfl, _⟩ | ⟨_, _, _, A, _, G, cap, _, _, _, _, _, hb⟩
  · exact Below.refl _ _
  · exact hb

theorem btr {a b c : World} (h : Below a.heap.size a b) (k : Below b.heap.size b c) : Below a.heap.size a c := h.trans (k.mono h.size)
theorem below_alloc (w : World) (o : Obj) : Below w.heap.size w (w.alloc o) := (Below.refl _ _).alloc (Nat.le_refl _) _
theorem bdrew (w : World) (q : Nat) : Below w.heap.size w (w.drewN q) := ⟨rfl, rfl, rfl, Nat.le_refl _, fun _ _ => rfl⟩

theorem At.lit (w : World) (l : List Int) (t : TypeId) (c : Array Value) (h : c = row l) : At (w.alloc (.cells c t)) (some ⟨w.heap.size, 0, none⟩) l := by
  subst h
  exact At.new w l t

theorem jr_lit (l' : List Int) (x : Bool) (hn : ∀ j, nth l' j = if j < 2 then max (nth [3, 0, 2] j) (nth [1, 4] j) else nth [3, 0, 2] j)
    (hx : (x = true ∧ l'.length = max [(3 : Int), 0, 2].length [(1 : Int), 4].length ∧ ∃ j, nth [3, 0, 2] j < nth [1, 4] j) ∨ (x = false ∧ l' = [3, 0, 2] ∧ ∀ j, j < 2 → nth [1, 4] j ≤ nth [3, 0, 2] j)) : x = true ∧ l' = [3, 4, 2] := by
  rcases hx with ⟨rfl, hl, _⟩ | ⟨_, _, h⟩
  · refine ⟨rfl, eq_of_nth hl fun j hj => ?_⟩
    rw [hn j]
    rw [hl] at hj
    match j, hj with
    | 0, _ => decide
    | 1, _ => decide
    | 2, _ => decide
  · exact absurd (h 1 (by decide)) (by decide)

theorem ints_is (oa ob : Option Addr) (l m : List Int) (n k c d : Nat) (x : Bool) (hx : decide (l = m) = x) (hn : l.length = n) (hk : m.length = k) (w : World) (hA : At w oa l) (hB : At w ob m) (hl : n ≤ 256) (hm : k ≤ 256) :
    Calls Tryz.prog 25 #[.slice oa n c, .slice ob k d] w fun r w' => r = .returned (.bool x) ∧ ∃ q, w' = w.drewN q := by
  subst hn hk hx
  exact ints_any oa ob l m c d w hA hB hl hm
end Ck
end Go.Proofs.YtakbbhngcdccpaaGreat
