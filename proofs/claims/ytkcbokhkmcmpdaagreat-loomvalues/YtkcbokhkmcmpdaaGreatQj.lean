/- Two lists of a law's own, side by side; what an event adds to them. -/
import Derived.Test.YtkcbokhkmcmpdaaGreatZjLoom10
import Derived.Test.YtkcbokhkmcmpdaaGreatQi
namespace Go.Proofs.YtkcbokhkmcmpdaaGreat
open Go.ChangeShapes Go.WideShapes Go.ChangeAt Go.RowKit
namespace Lo
open Ba

structure Ro (w0 wr : World) (vS vV : Value) (S V : List Int) : Prop where
  b : Below w0.heap.size w0 wr
  rs : wr.ownsRow w0.heap.size 3 1 vS S.length (Rp.ic S)
  rv : wr.ownsRow w0.heap.size 3 1 vV V.length (Rp.ic V)
  sv : ∀ g, vS.ownBlock = some g → vV.ownBlock ≠ some g
theorem Ro.nil (w : World) : Ro w w (.slice none 0 0) (.slice none 0 0) [] [] := ⟨Below.refl _ _, World.ownsRow_nil _ _ _ _, World.ownsRow_nil _ _ _ _, fun g e => by simp [Value.ownBlock] at e⟩
theorem Ro.below {w0 a c : World} {vS vV : Value} {S V : List Int} (h : Ro w0 a vS vV S V) (hb : Below a.heap.size a c) : Ro w0 c vS vV S V := ⟨btr h.b hb, own_below h.rs hb, own_below h.rv hb, h.sv⟩
theorem Ro.appS {w0 a c : World} {vS vV v' : Value} {S V : List Int} {x : Int} {N : Nat} (h : Ro w0 a vS vV S V) (r : c.ownsRow w0.heap.size 3 1 v' (S.length + 1) (Rp.ic S ++ [.int .i64 x])) (g : a.grownBy c vS.ownBlock) (hat : v'.ownBlock = vS.ownBlock ∨ v'.ownBlock = some N) (hN : N = a.heap.size) : Ro w0 c v' vV (S ++ [x]) V := by
  subst hN
  refine ⟨h.b.grown g h.b.size (fun k e => (Rp.own_blk h.rs k e).1), by rw [Rp.ic_app, List.length_append]; exact r, h.rv.kept g ?_, fun k e e2 => ?_⟩
  · cases hv : vV.ownBlock with
    | none => exact .inl rfl
    | some k => exact .inr fun e => h.sv k e.symm hv
  · rcases hat with q | q
    · exact h.sv k (q ▸ e) e2
    · rw [q] at e
      cases e
      obtain ⟨_, cur, q2⟩ := Rp.own_blk h.rv _ e2
      exact Nat.lt_irrefl _ (heap_lt q2)
theorem Ro.appV {w0 a c : World} {vS vV v' : Value} {S V : List Int} {x : Int} {N : Nat} (h : Ro w0 a vS vV S V) (r : c.ownsRow w0.heap.size 3 1 v' (V.length + 1) (Rp.ic V ++ [.int .i64 x])) (g : a.grownBy c vV.ownBlock) (hat : v'.ownBlock = vV.ownBlock ∨ v'.ownBlock = some N) (hN : N = a.heap.size) : Ro w0 c vS v' S (V ++ [x]) := by
  subst hN
  refine ⟨h.b.grown g h.b.size (fun k e => (Rp.own_blk h.rv k e).1), h.rs.kept g ?_, by rw [Rp.ic_app, List.length_append]; exact r, fun k e e2 => ?_⟩
  · cases hv : vS.ownBlock with
    | none => exact .inl rfl
    | some k => exact .inr fun e => h.sv k hv e.symm
  · rcases hat with q | q
    · exact h.sv k e (q ▸ e2)
    · rw [q] at e2
      cases e2
      obtain ⟨_, cur, q2⟩ := Rp.own_blk h.rs _ e
      exact Nat.lt_irrefl _ (heap_lt q2)
theorem Ro.keepS {w0 a c : World} {vS vV : Value} {S V : List Int} {k : Nat} {cs : Array Value} {t : TypeId} (h : Ro w0 a vS vV S V) (g : a.grownBy c vS.ownBlock) (hk : a.heap[k]? = some (.cells cs t (0, 0))) (ht : t ≠ 3) : c.heap[k]? = some (.cells cs t (0, 0)) := Rp.heap_grown g hk (fun e => own_ty h.rs hk ht e.symm)
theorem ins_len (c : Int) (l : List Ev) : (ins c l).length ≤ l.length := by
  unfold ins
  rw [List.length_map]
  exact List.length_filter_le _ _
theorem outs_len (c : Int) (l : List Ev) : (outs c l).length ≤ l.length := by
  unfold outs
  rw [List.length_map]
  exact List.length_filter_le _ _
theorem ins_take {c : Int} {l : List Ev} {k : Nat} {x : Ev} (h : l[k]? = some x) : ins c (l.take (k + 1)) = ins c (l.take k) ++ (if inB c x then [x.v] else []) := by
  rw [List.take_add_one, h, ins_app]
  congr 1
  unfold ins
  cases hb : inB c x <;> simp [hb]
theorem outs_take {c : Int} {l : List Ev} {k : Nat} {x : Ev} (h : l[k]? = some x) : outs c (l.take (k + 1)) = outs c (l.take k) ++ (if outB c x then [x.v] else []) := by
  rw [List.take_add_one, h, outs_app]
  congr 1
  unfold outs
  cases hb : outB c x <;> simp [hb]
end Lo
end Go.Proofs.YtkcbokhkmcmpdaaGreat
