import Derived.Test.YtakbbhngcdccpaaGreatGu2
import Derived.Deep.DeepCutAuto
import Derived.Deep.RegionLaw
import Derived.Maps.AppendAt
import Derived.OwnWalk
import Derived.Lib.AppendZeros
import Derived.Lib.Slices
import Derived.Test.YtakbbhngcdccpaaGreatNd
/- The document's gauge: Crew (rule 2), over this seat's program. Written by gen/gucrew.py. -/
namespace Go.Proofs.YtakbbhngcdccpaaGreat
open Go.ChangeShapes Go.WideShapes Go.ChangeAt Go.RowKit
namespace Gu
open En Ba

theorem there_take {l : List Ev} {k : Nat} {e : Ev} (h : l[k]? = some e) : there (l.take (k + 1)) = there (l.take k) + if e.k = 1 then 1 else 0 := by
  rw [List.take_add_one, h]; exact there_app _ _
theorem exit_take {l : List Ev} {k : Nat} {e : Ev} (h : l[k]? = some e) (g : Int) : exitF g (l.take (k + 1)) = (exitF g (l.take k) || (decide (e.g = g) && decide (e.k = 11))) := by
  rw [List.take_add_one, h]; exact exit_app _ _ _
theorem waits_take {l : List Ev} {k : Nat} {e : Ev} (h : l[k]? = some e) (g : Int) : waitsF g (l.take (k + 1)) = wstep g (waitsF g (l.take k)) e := by
  rw [List.take_add_one, h]; exact waits_app _ _ _
theorem pan_take {l : List Ev} {k : Nat} {e : Ev} (h : l[k]? = some e) : panF (l.take (k + 1)) = (panF (l.take k) || decide (e.k = 12)) := by
  rw [List.take_add_one, h]; exact pan_app _ _
theorem pan_more {l : List Ev} {k i : Nat} (h : k ≤ i) (hp : panF (l.take k) = true) : panF (l.take i) = true := by
  have : l.take i = l.take k ++ (l.take i).drop k := by
    rw [show l.take k = (l.take i).take k by rw [List.take_take, Nat.min_eq_left h]]
    exact (List.take_append_drop _ _).symm
  rw [this]; simp only [panF, List.any_append] at hp ⊢; rw [hp]; rfl
theorem there_le (l : List Ev) (k : Nat) : there (l.take k) ≤ k + 1 := by
  have := List.countP_le_length (p := fun x : Ev => decide (x.k = 1)) (l := l.take k)
  simp only [List.length_take] at this
  unfold there; omega
end Gu
end Go.Proofs.YtakbbhngcdccpaaGreat
/- The document's gauge: Served (rule 4), over this seat's program. Written by gen/guserved.py. -/
namespace Go.Proofs.YtakbbhngcdccpaaGreat
open Go.ChangeShapes Go.WideShapes Go.ChangeAt Go.RowKit
namespace Gu
open En Ba

theorem rev_take {l : List Ev} {k : Nat} {x : Ev} (h : l[k]? = some x) : (l.take (k + 1)).reverse = x :: (l.take k).reverse := by
  rw [List.take_add_one, h]; simp
end Gu
end Go.Proofs.YtakbbhngcdccpaaGreat
/- The document's gauge, over this seat's program: what is in a channel (in). -/
namespace Go.Proofs.YtakbbhngcdccpaaGreat
open Go.ChangeShapes Go.WideShapes Go.ChangeAt Go.RowKit
namespace Gu
open En Ba

def ic (l : List Int) : List Value := l.map (Value.int .i64)
theorem ic_app (l m : List Int) : ic (l ++ m) = ic l ++ ic m := by simp [ic]
theorem ic_one (l : List Int) : ∀ u ∈ ic l, u.oneCell' = true := by
  intro u hu
  obtain ⟨b, -, rfl⟩ := List.mem_map.1 hu
  rfl
theorem ic_len (l : List Int) : (ic l).length = l.length := by simp [ic]
theorem info_int : (Tryz.prog.info? 3).map (fun i => (i.zero, i.size, i.bytes)) = some (some (.int .i64 0), 1, 8) := by kernel_rfl
theorem own_sl {w : World} {base : Nat} {e : TypeId} {size n : Nat} {v : Value} {xs : List Value} (h : w.ownsRow base e size v n xs) : ∃ oa c, v = .slice oa n c := by
  rcases h.2 with ⟨rfl, rfl⟩ | ⟨g, cap, cr, rfl, -⟩
  · exact ⟨none, 0, rfl⟩
  · exact ⟨_, _, rfl⟩
theorem own_kb {w w' : World} {P base size : Nat} {e : TypeId} {v : Value} {n : Nat} {xs : List Value} (h : w.ownsRow base e size v n xs) (k : KB P w w') (hn : v.ownBlock ≠ some P) : w'.ownsRow base e size v n xs := by
  refine ⟨h.1, ?_⟩
  rcases h.2 with q | ⟨g, cap, cur, q1, q2, q3, q4⟩
  · exact .inl q
  · refine .inr ⟨g, cap, cur, q1, q2, k.heap q3 ?_, q4⟩
    subst q1; intro e; subst e; exact hn rfl
theorem below_set {w u : World} {n b i : Nat} {v : Value} (h : Below n w u) (hb : n ≤ b) : Below n w (u.setCell ⟨b, i, none⟩ v) := by
  refine ⟨h.os, h.tape, h.output, ?_, fun k hk => ?_⟩
  · have : (u.setCell ⟨b, i, none⟩ v).heap.size = u.heap.size := by simp [World.setCell]
    rw [this]; exact h.size
  · rw [← h.block k hk]
    exact Below.heap_setCell _ _ _ _ (by show k ≠ b; omega)
theorem step_append_run {ops : Array Oper} (w : World) {o : Oper} {a : Act} {K : Act → World → Prop} {Q : Exit → Act → World → Prop} {E : Prop} (hgd : o.guard = none) (s x : Operand) (t tn : TypeId)
    (ho : o.op = .call { callee := .builtin .append, args := #[s, x], argTypes := #[t, tn] }) (vs vx : Value) (hs : a.eval s = vs) (hx : a.eval x = vx)
    (v' : Value) (w' : World) (hr : (Builtin.append_ #[t, tn] o.type #[vs, vx]).run Tryz.prog w = .ok v' w') (h : K (a.put o.dst v') w') :
    if Region.wanted o (yielded ops a.tmps) = true then Oper.wp Tryz.prog o a w K Q else E := by
  have hw : Region.wanted o (yielded ops a.tmps) = true := by simp [Region.wanted, hgd]
  rw [if_pos hw]
  exact Lib.wp_append_run w s x t tn ho vs vx hs hx v' w' hr h
section
variable {ops : Array Oper} {rest : List Oper} {o : Oper} {a : Act} {w : World} {Q : Exit → Act → World → Prop}
theorem wpL_app (hgd : o.guard = none) (s x : Operand) (t tn : TypeId)
    (ho : o.op = .call { callee := .builtin .append, args := #[s, x], argTypes := #[t, tn] }) (vs vx : Value) (hs : a.eval s = vs) (hx : a.eval x = vx)
    (v' : Value) (w' : World) (hr : (Builtin.append_ #[t, tn] o.type #[vs, vx]).run Tryz.prog w = .ok v' w') (h : wpList Tryz.prog ops Q rest (a.put o.dst v') w') : wpList Tryz.prog ops Q (o :: rest) a w :=
  wpList_plain hgd fun _ hK => Lib.wp_append_run w s x t tn ho vs vx hs hx v' w' hr (hK _ _ h)
end
section
variable {w w' : World} {N : Nat} {v : Value} {sz : Int} {L : List Int} {cl rt : Bool}
end
theorem inn_succ {l : List Ev} {k : Nat} {x : Ev} (h : l[k]? = some x) (c : Int) : inn l (k + 1) c = ins (inn l k c) c x l[k + 1]? := by simp [inn, h]
theorem put_len (L : List Int) (e : Ev) (nx : Option Ev) : (put L e nx).length ≤ L.length + 1 := by
  unfold put
  split
  · simp
  · split
    · split
      · simp
      · simp
    · simp
theorem mov_len (s : In) (e : Ev) (nx : Option Ev) : (mov s e nx).L.length ≤ s.L.length + 1 := by
  have h := put_len s.L e nx
  unfold mov
  split
  · split
    · rename_i h2; rw [h2] at h; simp at h ⊢; omega
    · simp
  · exact h
theorem inn_len (l : List Ev) (c : Int) : ∀ k, (inn l k c).L.length ≤ k
  | 0 => Nat.le_refl _
  | k + 1 => by
    have ih := inn_len l c k
    unfold inn
    split
    · unfold ins
      split
      · omega
      · split
        · have := mov_len (inn l k c) ‹Ev› l[k + 1]?; omega
        · simp only; omega
    · omega
end Gu
end Go.Proofs.YtakbbhngcdccpaaGreat
/- The document's gauge, over this seat's program: Ordered, Closed. -/
namespace Go.Proofs.YtakbbhngcdccpaaGreat
open Go.ChangeShapes Go.WideShapes Go.ChangeAt Go.RowKit
namespace Gu
open En Ba

end Gu
end Go.Proofs.YtakbbhngcdccpaaGreat
/- Which events are right, kind by kind; the reference's within, over this seat's program. -/
namespace Go.Proofs.YtakbbhngcdccpaaGreat
open Go.ChangeShapes Go.WideShapes Go.ChangeAt Go.RowKit
namespace En
open Ba Re

theorem chk1 (g c a v m : Int) (s o : Bool) : chk ⟨1, g, c, a, v, m, s, o⟩ = if s = false ∧ o = false ∧ (0 ≤ g ∧ g ≤ 511) ∧ c = -1 ∧ a = -1 ∧ (0 ≤ v ∧ v ≤ 7) ∧ (0 ≤ m ∧ m ≤ 511) then 0 else 4 := by
  unfold chk
  rw [if_neg (by show ¬ ((1 : Int) < 1 ∨ 13 < (1 : Int)); decide)]
  have h : ((ff ⟨1, g, c, a, v, m, s, o⟩ && okF ⟨1, g, c, a, v, m, s, o⟩) = true) ↔ (s = false ∧ o = false ∧ (0 ≤ g ∧ g ≤ 511) ∧ c = -1 ∧ a = -1 ∧ (0 ≤ v ∧ v ≤ 7) ∧ (0 ≤ m ∧ m ≤ 511)) := by
    cases s <;> cases o <;> simp [ff, okF, okA, spn, inS, fl, nth, List.range, List.range.loop] <;> (try split) <;> (try simp) <;> omega
  by_cases q : s = false ∧ o = false ∧ (0 ≤ g ∧ g ≤ 511) ∧ c = -1 ∧ a = -1 ∧ (0 ≤ v ∧ v ≤ 7) ∧ (0 ≤ m ∧ m ≤ 511)
  · rw [if_pos q, if_pos (h.2 q)]
  · rw [if_neg q, if_neg (fun z => q (h.1 z))]
theorem chk2 (g c a v m : Int) (s o : Bool) : chk ⟨2, g, c, a, v, m, s, o⟩ = if s = false ∧ o = false ∧ (0 ≤ g ∧ g ≤ 511) ∧ (0 ≤ c ∧ c ≤ 511) ∧ a = -1 ∧ (0 ≤ v ∧ v ≤ 4) ∧ m = -1 then 0 else 4 := by
  unfold chk
  rw [if_neg (by show ¬ ((2 : Int) < 1 ∨ 13 < (2 : Int)); decide)]
  have h : ((ff ⟨2, g, c, a, v, m, s, o⟩ && okF ⟨2, g, c, a, v, m, s, o⟩) = true) ↔ (s = false ∧ o = false ∧ (0 ≤ g ∧ g ≤ 511) ∧ (0 ≤ c ∧ c ≤ 511) ∧ a = -1 ∧ (0 ≤ v ∧ v ≤ 4) ∧ m = -1) := by
    cases s <;> cases o <;> simp [ff, okF, okA, spn, inS, fl, nth, List.range, List.range.loop] <;> (try split) <;> (try simp) <;> omega
  by_cases q : s = false ∧ o = false ∧ (0 ≤ g ∧ g ≤ 511) ∧ (0 ≤ c ∧ c ≤ 511) ∧ a = -1 ∧ (0 ≤ v ∧ v ≤ 4) ∧ m = -1
  · rw [if_pos q, if_pos (h.2 q)]
  · rw [if_neg q, if_neg (fun z => q (h.1 z))]
theorem chk3 (g c a v m : Int) (s o : Bool) : chk ⟨3, g, c, a, v, m, s, o⟩ = if s = true ∧ o = false ∧ (0 ≤ g ∧ g ≤ 511) ∧ (0 ≤ c ∧ c ≤ 511) ∧ (-1 ≤ a ∧ a ≤ 3) ∧ (0 ≤ v ∧ v ≤ 99) ∧ (-1 ≤ m ∧ m ≤ 511) then 0 else 4 := by
  unfold chk
  rw [if_neg (by show ¬ ((3 : Int) < 1 ∨ 13 < (3 : Int)); decide)]
  have h : ((ff ⟨3, g, c, a, v, m, s, o⟩ && okF ⟨3, g, c, a, v, m, s, o⟩) = true) ↔ (s = true ∧ o = false ∧ (0 ≤ g ∧ g ≤ 511) ∧ (0 ≤ c ∧ c ≤ 511) ∧ (-1 ≤ a ∧ a ≤ 3) ∧ (0 ≤ v ∧ v ≤ 99) ∧ (-1 ≤ m ∧ m ≤ 511)) := by
    cases s <;> cases o <;> simp [ff, okF, okA, spn, inS, fl, nth, vm, ml, mh, List.range, List.range.loop] <;> (try split) <;> (try simp) <;> omega
  by_cases q : s = true ∧ o = false ∧ (0 ≤ g ∧ g ≤ 511) ∧ (0 ≤ c ∧ c ≤ 511) ∧ (-1 ≤ a ∧ a ≤ 3) ∧ (0 ≤ v ∧ v ≤ 99) ∧ (-1 ≤ m ∧ m ≤ 511)
  · rw [if_pos q, if_pos (h.2 q)]
  · rw [if_neg q, if_neg (fun z => q (h.1 z))]
theorem chk4 (g c a v m : Int) (s o : Bool) : chk ⟨4, g, c, a, v, m, s, o⟩ = if s = false ∧ (0 ≤ g ∧ g ≤ 511) ∧ (0 ≤ c ∧ c ≤ 511) ∧ (-1 ≤ a ∧ a ≤ 3) ∧ (0 ≤ v ∧ v ≤ 99) ∧ (-1 ≤ m ∧ m ≤ 511) ∧ (o = true ∨ v = 0 ∧ m = -1) then 0 else 4 := by
  unfold chk
  rw [if_neg (by show ¬ ((4 : Int) < 1 ∨ 13 < (4 : Int)); decide)]
  have h : ((ff ⟨4, g, c, a, v, m, s, o⟩ && okF ⟨4, g, c, a, v, m, s, o⟩) = true) ↔ (s = false ∧ (0 ≤ g ∧ g ≤ 511) ∧ (0 ≤ c ∧ c ≤ 511) ∧ (-1 ≤ a ∧ a ≤ 3) ∧ (0 ≤ v ∧ v ≤ 99) ∧ (-1 ≤ m ∧ m ≤ 511) ∧ (o = true ∨ v = 0 ∧ m = -1)) := by
    cases s <;> cases o <;> simp [ff, okF, okA, spn, inS, fl, nth, vm, ml, mh, List.range, List.range.loop] <;> (try split) <;> (try simp) <;> omega
  by_cases q : s = false ∧ (0 ≤ g ∧ g ≤ 511) ∧ (0 ≤ c ∧ c ≤ 511) ∧ (-1 ≤ a ∧ a ≤ 3) ∧ (0 ≤ v ∧ v ≤ 99) ∧ (-1 ≤ m ∧ m ≤ 511) ∧ (o = true ∨ v = 0 ∧ m = -1)
  · rw [if_pos q, if_pos (h.2 q)]
  · rw [if_neg q, if_neg (fun z => q (h.1 z))]
theorem chk5 (g c a v m : Int) (s o : Bool) : chk ⟨5, g, c, a, v, m, s, o⟩ = if s = false ∧ o = false ∧ (0 ≤ g ∧ g ≤ 511) ∧ (0 ≤ c ∧ c ≤ 511) ∧ a = -1 ∧ v = -1 ∧ m = -1 then 0 else 4 := by
  unfold chk
  rw [if_neg (by show ¬ ((5 : Int) < 1 ∨ 13 < (5 : Int)); decide)]
  have h : ((ff ⟨5, g, c, a, v, m, s, o⟩ && okF ⟨5, g, c, a, v, m, s, o⟩) = true) ↔ (s = false ∧ o = false ∧ (0 ≤ g ∧ g ≤ 511) ∧ (0 ≤ c ∧ c ≤ 511) ∧ a = -1 ∧ v = -1 ∧ m = -1) := by
    cases s <;> cases o <;> simp [ff, okF, okA, spn, inS, fl, nth, List.range, List.range.loop] <;> (try split) <;> (try simp) <;> omega
  by_cases q : s = false ∧ o = false ∧ (0 ≤ g ∧ g ≤ 511) ∧ (0 ≤ c ∧ c ≤ 511) ∧ a = -1 ∧ v = -1 ∧ m = -1
  · rw [if_pos q, if_pos (h.2 q)]
  · rw [if_neg q, if_neg (fun z => q (h.1 z))]
theorem chk6 (g c a v m : Int) (s o : Bool) : chk ⟨6, g, c, a, v, m, s, o⟩ = if o = false ∧ (0 ≤ g ∧ g ≤ 511) ∧ (a = -1 ∧ (-1 ≤ c ∧ c ≤ 511) ∧ (s = true ∧ (0 ≤ v ∧ v ≤ 99) ∨ s = false ∧ v = 0) ∨ (0 ≤ a ∧ a ≤ 4) ∧ c = -1 ∧ s = false ∧ v = 0) ∧ m = -1 then 0 else 4 := by
  unfold chk
  rw [if_neg (by show ¬ ((6 : Int) < 1 ∨ 13 < (6 : Int)); decide)]
  have h : ((ff ⟨6, g, c, a, v, m, s, o⟩ && okF ⟨6, g, c, a, v, m, s, o⟩) = true) ↔ (o = false ∧ (0 ≤ g ∧ g ≤ 511) ∧ (a = -1 ∧ (-1 ≤ c ∧ c ≤ 511) ∧ (s = true ∧ (0 ≤ v ∧ v ≤ 99) ∨ s = false ∧ v = 0) ∨ (0 ≤ a ∧ a ≤ 4) ∧ c = -1 ∧ s = false ∧ v = 0) ∧ m = -1) := by
    cases s <;> cases o <;> simp [ff, okF, okA, spn, inS, fl, nth, vm, List.range, List.range.loop] <;> (try split) <;> (try simp) <;> omega
  by_cases q : o = false ∧ (0 ≤ g ∧ g ≤ 511) ∧ (a = -1 ∧ (-1 ≤ c ∧ c ≤ 511) ∧ (s = true ∧ (0 ≤ v ∧ v ≤ 99) ∨ s = false ∧ v = 0) ∨ (0 ≤ a ∧ a ≤ 4) ∧ c = -1 ∧ s = false ∧ v = 0) ∧ m = -1
  · rw [if_pos q, if_pos (h.2 q)]
  · rw [if_neg q, if_neg (fun z => q (h.1 z))]
theorem chk7 (g c a v m : Int) (s o : Bool) : chk ⟨7, g, c, a, v, m, s, o⟩ = if (0 ≤ g ∧ g ≤ 511) ∧ (0 ≤ c ∧ c ≤ 511) ∧ (-1 ≤ a ∧ a ≤ 3) ∧ (0 ≤ v ∧ v ≤ 99) ∧ (0 ≤ m ∧ m ≤ 511) ∧ (o = true ∨ s = false ∧ v = 0) then 0 else 4 := by
  unfold chk
  rw [if_neg (by show ¬ ((7 : Int) < 1 ∨ 13 < (7 : Int)); decide)]
  have h : ((ff ⟨7, g, c, a, v, m, s, o⟩ && okF ⟨7, g, c, a, v, m, s, o⟩) = true) ↔ ((0 ≤ g ∧ g ≤ 511) ∧ (0 ≤ c ∧ c ≤ 511) ∧ (-1 ≤ a ∧ a ≤ 3) ∧ (0 ≤ v ∧ v ≤ 99) ∧ (0 ≤ m ∧ m ≤ 511) ∧ (o = true ∨ s = false ∧ v = 0)) := by
    cases s <;> cases o <;> simp [ff, okF, okA, spn, inS, fl, nth, vm, ml, mh, List.range, List.range.loop] <;> (try split) <;> (try simp) <;> omega
  by_cases q : (0 ≤ g ∧ g ≤ 511) ∧ (0 ≤ c ∧ c ≤ 511) ∧ (-1 ≤ a ∧ a ≤ 3) ∧ (0 ≤ v ∧ v ≤ 99) ∧ (0 ≤ m ∧ m ≤ 511) ∧ (o = true ∨ s = false ∧ v = 0)
  · rw [if_pos q, if_pos (h.2 q)]
  · rw [if_neg q, if_neg (fun z => q (h.1 z))]
theorem chk8 (g c a v m : Int) (s o : Bool) : chk ⟨8, g, c, a, v, m, s, o⟩ = if s = false ∧ o = false ∧ (0 ≤ g ∧ g ≤ 511) ∧ c = -1 ∧ a = -1 ∧ v = -1 ∧ m = -1 then 0 else 4 := by
  unfold chk
  rw [if_neg (by show ¬ ((8 : Int) < 1 ∨ 13 < (8 : Int)); decide)]
  have h : ((ff ⟨8, g, c, a, v, m, s, o⟩ && okF ⟨8, g, c, a, v, m, s, o⟩) = true) ↔ (s = false ∧ o = false ∧ (0 ≤ g ∧ g ≤ 511) ∧ c = -1 ∧ a = -1 ∧ v = -1 ∧ m = -1) := by
    cases s <;> cases o <;> simp [ff, okF, okA, spn, inS, fl, nth, List.range, List.range.loop] <;> (try split) <;> (try simp) <;> omega
  by_cases q : s = false ∧ o = false ∧ (0 ≤ g ∧ g ≤ 511) ∧ c = -1 ∧ a = -1 ∧ v = -1 ∧ m = -1
  · rw [if_pos q, if_pos (h.2 q)]
  · rw [if_neg q, if_neg (fun z => q (h.1 z))]
theorem chk9 (g c a v m : Int) (s o : Bool) : chk ⟨9, g, c, a, v, m, s, o⟩ = if s = false ∧ o = false ∧ (0 ≤ g ∧ g ≤ 511) ∧ c = -1 ∧ a = -1 ∧ (0 ≤ v ∧ v ≤ 7) ∧ m = -1 then 0 else 4 := by
  unfold chk
  rw [if_neg (by show ¬ ((9 : Int) < 1 ∨ 13 < (9 : Int)); decide)]
  have h : ((ff ⟨9, g, c, a, v, m, s, o⟩ && okF ⟨9, g, c, a, v, m, s, o⟩) = true) ↔ (s = false ∧ o = false ∧ (0 ≤ g ∧ g ≤ 511) ∧ c = -1 ∧ a = -1 ∧ (0 ≤ v ∧ v ≤ 7) ∧ m = -1) := by
    cases s <;> cases o <;> simp [ff, okF, okA, spn, inS, fl, nth, List.range, List.range.loop] <;> (try split) <;> (try simp) <;> omega
  by_cases q : s = false ∧ o = false ∧ (0 ≤ g ∧ g ≤ 511) ∧ c = -1 ∧ a = -1 ∧ (0 ≤ v ∧ v ≤ 7) ∧ m = -1
  · rw [if_pos q, if_pos (h.2 q)]
  · rw [if_neg q, if_neg (fun z => q (h.1 z))]
theorem chk10 (g c a v m : Int) (s o : Bool) : chk ⟨10, g, c, a, v, m, s, o⟩ = if s = false ∧ o = false ∧ (0 ≤ g ∧ g ≤ 511) ∧ c = -1 ∧ a = -1 ∧ (0 ≤ v ∧ v ≤ 7) ∧ m = -1 then 0 else 4 := by
  unfold chk
  rw [if_neg (by show ¬ ((10 : Int) < 1 ∨ 13 < (10 : Int)); decide)]
  have h : ((ff ⟨10, g, c, a, v, m, s, o⟩ && okF ⟨10, g, c, a, v, m, s, o⟩) = true) ↔ (s = false ∧ o = false ∧ (0 ≤ g ∧ g ≤ 511) ∧ c = -1 ∧ a = -1 ∧ (0 ≤ v ∧ v ≤ 7) ∧ m = -1) := by
    cases s <;> cases o <;> simp [ff, okF, okA, spn, inS, fl, nth, List.range, List.range.loop] <;> (try split) <;> (try simp) <;> omega
  by_cases q : s = false ∧ o = false ∧ (0 ≤ g ∧ g ≤ 511) ∧ c = -1 ∧ a = -1 ∧ (0 ≤ v ∧ v ≤ 7) ∧ m = -1
  · rw [if_pos q, if_pos (h.2 q)]
  · rw [if_neg q, if_neg (fun z => q (h.1 z))]
theorem chk11 (g c a v m : Int) (s o : Bool) : chk ⟨11, g, c, a, v, m, s, o⟩ = if s = false ∧ o = false ∧ (0 ≤ g ∧ g ≤ 511) ∧ c = -1 ∧ a = -1 ∧ v = -1 ∧ m = -1 then 0 else 4 := by
  unfold chk
  rw [if_neg (by show ¬ ((11 : Int) < 1 ∨ 13 < (11 : Int)); decide)]
  have h : ((ff ⟨11, g, c, a, v, m, s, o⟩ && okF ⟨11, g, c, a, v, m, s, o⟩) = true) ↔ (s = false ∧ o = false ∧ (0 ≤ g ∧ g ≤ 511) ∧ c = -1 ∧ a = -1 ∧ v = -1 ∧ m = -1) := by
    cases s <;> cases o <;> simp [ff, okF, okA, spn, inS, fl, nth, List.range, List.range.loop] <;> (try split) <;> (try simp) <;> omega
  by_cases q : s = false ∧ o = false ∧ (0 ≤ g ∧ g ≤ 511) ∧ c = -1 ∧ a = -1 ∧ v = -1 ∧ m = -1
  · rw [if_pos q, if_pos (h.2 q)]
  · rw [if_neg q, if_neg (fun z => q (h.1 z))]
theorem chk12 (g c a v m : Int) (s o : Bool) : chk ⟨12, g, c, a, v, m, s, o⟩ = if s = false ∧ o = false ∧ (0 ≤ g ∧ g ≤ 511) ∧ c = -1 ∧ a = -1 ∧ v = -1 ∧ m = -1 then 0 else 4 := by
  unfold chk
  rw [if_neg (by show ¬ ((12 : Int) < 1 ∨ 13 < (12 : Int)); decide)]
  have h : ((ff ⟨12, g, c, a, v, m, s, o⟩ && okF ⟨12, g, c, a, v, m, s, o⟩) = true) ↔ (s = false ∧ o = false ∧ (0 ≤ g ∧ g ≤ 511) ∧ c = -1 ∧ a = -1 ∧ v = -1 ∧ m = -1) := by
    cases s <;> cases o <;> simp [ff, okF, okA, spn, inS, fl, nth, List.range, List.range.loop] <;> (try split) <;> (try simp) <;> omega
  by_cases q : s = false ∧ o = false ∧ (0 ≤ g ∧ g ≤ 511) ∧ c = -1 ∧ a = -1 ∧ v = -1 ∧ m = -1
  · rw [if_pos q, if_pos (h.2 q)]
  · rw [if_neg q, if_neg (fun z => q (h.1 z))]
theorem chk13 (g c a v m : Int) (s o : Bool) : chk ⟨13, g, c, a, v, m, s, o⟩ = if s = false ∧ o = false ∧ g = -1 ∧ c = -1 ∧ a = -1 ∧ v = -1 ∧ m = -1 then 0 else 4 := by
  unfold chk
  rw [if_neg (by show ¬ ((13 : Int) < 1 ∨ 13 < (13 : Int)); decide)]
  have h : ((ff ⟨13, g, c, a, v, m, s, o⟩ && okF ⟨13, g, c, a, v, m, s, o⟩) = true) ↔ (s = false ∧ o = false ∧ g = -1 ∧ c = -1 ∧ a = -1 ∧ v = -1 ∧ m = -1) := by
    cases s <;> cases o <;> simp [ff, okF, okA, spn, inS, fl, nth, List.range, List.range.loop] <;> (try split) <;> (try simp) <;> omega
  by_cases q : s = false ∧ o = false ∧ g = -1 ∧ c = -1 ∧ a = -1 ∧ v = -1 ∧ m = -1
  · rw [if_pos q, if_pos (h.2 q)]
  · rw [if_neg q, if_neg (fun z => q (h.1 z))]
end En
end Go.Proofs.YtakbbhngcdccpaaGreat
/- The reference's Check (kinds 8, 11, 12), over this seat's program. -/
namespace Go.Proofs.YtakbbhngcdccpaaGreat
open Go.ChangeShapes Go.WideShapes Go.ChangeAt Go.RowKit
namespace En
open Ba Re

end En
end Go.Proofs.YtakbbhngcdccpaaGreat
/- The reference's Check (kinds 1, 2, 5), over this seat's program. -/
namespace Go.Proofs.YtakbbhngcdccpaaGreat
open Go.ChangeShapes Go.WideShapes Go.ChangeAt Go.RowKit
namespace En
open Ba Re

end En
end Go.Proofs.YtakbbhngcdccpaaGreat
/- The reference's Check (kinds 9, 10, 13), over this seat's program. -/
namespace Go.Proofs.YtakbbhngcdccpaaGreat
open Go.ChangeShapes Go.WideShapes Go.ChangeAt Go.RowKit
namespace En
open Ba Re

end En
end Go.Proofs.YtakbbhngcdccpaaGreat
/- The reference's Check (kinds 3), over this seat's program. -/
namespace Go.Proofs.YtakbbhngcdccpaaGreat
open Go.ChangeShapes Go.WideShapes Go.ChangeAt Go.RowKit
namespace En
open Ba Re

end En
end Go.Proofs.YtakbbhngcdccpaaGreat
/- The reference's Check (kinds 4), over this seat's program. -/
namespace Go.Proofs.YtakbbhngcdccpaaGreat
open Go.ChangeShapes Go.WideShapes Go.ChangeAt Go.RowKit
namespace En
open Ba Re

end En
end Go.Proofs.YtakbbhngcdccpaaGreat
/- The reference's Check (kind 6, no Send), over this seat's program. -/
namespace Go.Proofs.YtakbbhngcdccpaaGreat
open Go.ChangeShapes Go.WideShapes Go.ChangeAt Go.RowKit
namespace En
open Ba Re

end En
end Go.Proofs.YtakbbhngcdccpaaGreat
/- The reference's Check (kinds 7), over this seat's program. -/
namespace Go.Proofs.YtakbbhngcdccpaaGreat
open Go.ChangeShapes Go.WideShapes Go.ChangeAt Go.RowKit
namespace En
open Ba Re

end En
end Go.Proofs.YtakbbhngcdccpaaGreat
/- The reference's Check (kind 6, Send), over this seat's program. -/
namespace Go.Proofs.YtakbbhngcdccpaaGreat
open Go.ChangeShapes Go.WideShapes Go.ChangeAt Go.RowKit
namespace En
open Ba Re

end En
end Go.Proofs.YtakbbhngcdccpaaGreat
/- The reference's Check, over this seat's program. -/
namespace Go.Proofs.YtakbbhngcdccpaaGreat
open Go.ChangeShapes Go.WideShapes Go.ChangeAt Go.RowKit
namespace En
open Ba Re

end En
end Go.Proofs.YtakbbhngcdccpaaGreat
/- The document's gauge, over this seat's program: Check. -/
namespace Go.Proofs.YtakbbhngcdccpaaGreat
open Go.ChangeShapes Go.WideShapes Go.ChangeAt Go.RowKit
namespace Gu
open En Ba

/-- the rule that is broken, and where -/
def Chk (l : List Ev) (n a : Int) : Prop :=
  (∃ (i : Nat) (e : Ev), l[i]? = some e ∧ ruleD l i e ≠ 0 ∧ n = ruleD l i e ∧ a = (i : Int) ∧ ∀ j, j < i → ∀ x, l[j]? = some x → ruleD l j x = 0) ∨
  ((∀ j x, l[j]? = some x → ruleD l j x = 0) ∧ (n, a) = if l.getLast?.any serves = true then (4, (l.length : Int)) else (0, 0))
theorem Chk.eq {l : List Ev} {n a n' a' : Int} (h : Chk l n a) (h' : Chk l n' a') : n = n' ∧ a = a' := by
  rcases h with ⟨i, e, he, hn, rfl, rfl, hj⟩ | ⟨ha, hr⟩ <;> rcases h' with ⟨i', e', he', hn', rfl, rfl, hj'⟩ | ⟨ha', hr'⟩
  · have : i = i' := by
      rcases Nat.lt_trichotomy i i' with q | q | q
      · exact absurd (hj' i q e he) hn
      · exact q
      · exact absurd (hj i' q e' he') hn'
    subst this
    rw [he] at he'
    cases he'
    exact ⟨rfl, rfl⟩
  · exact absurd (ha' i e he) hn
  · exact absurd (ha i' e' he') hn'
  · rw [← hr'] at hr
    exact ⟨congrArg Prod.fst hr, congrArg Prod.snd hr⟩
theorem ruleD_of (l : List Ev) (i : Nat) (e : Ev) (b2 b3 b4 b5 b6 : Bool) (hi : i < 2000) (h2 : crew (l.take i) e = b2) (h3 : made (l.take i) e = b3) (h4 : served (l.take i).reverse e = b4) (h5 : ordered (inn l i e.c) e l[i + 1]? = b5) (h6 : closedF (inn l i e.c) e = b6) :
    ruleD l i e = if chk e ≠ 0 then 1 else if b2 = false then 2 else if b3 = false then 3 else if b4 = false then 4 else if b5 = false then 5 else if b6 = false then 6 else 0 := by
  unfold ruleD
  rw [h2, h3, h4, h5, h6]
  by_cases h : chk e ≠ 0
  · rw [if_pos (.inr h), if_pos h]
  · rw [if_neg (fun q => q.elim (fun q => by omega) h), if_neg h]
end Gu
end Go.Proofs.YtakbbhngcdccpaaGreat
