/- Layer 16's reference, over this seat's program: steps that make memory. -/
import Derived.Test.YtfimfgffbfjkeaaWr2
import Derived.Great.BuildSlice
namespace Go.Proofs.Ytfimfgffbfjkeaa
open Go.ChangeShapes Go.WideShapes Go.ChangeAt Go.RowKit
namespace Wq
open Ck
open Ba (KF Bd Nw)

theorem cellB {w w' : World} {a : Addr} {v : Value} (h : w.cell? a = some v) (b : Below w.heap.size w w') : w'.cell? a = some v := (b.cell (World.block_lt_of_cell? w _ h)).trans h
section
variable {ops : Array Oper} {o : Oper} {a : Act} {w : World} {K : Act → World → Prop} {Q : Exit → Act → World → Prop} {E : Prop}
theorem step_bs (hgd : o.guard = none) (t : TypeId) (len : Nat) (parts : Array (Nat × Operand)) (ho : o.op = .buildSlice t len parts) (ps : Array (Nat × Value)) (hp : (parts.map fun (i, x) => (i, a.eval x)) = ps) (v : Value) (w' : World) (hb : (Instr.buildSlice t len ps).run Try.prog w = .ok v w') (h : K (a.put o.dst v) w') :
    if Region.wanted o (yielded ops a.tmps) = true then Oper.wp Try.prog o a w K Q else E := by
  have hw : Region.wanted o (yielded ops a.tmps) = true := by simp [Region.wanted, hgd]
  rw [if_pos hw]
  unfold Oper.wp execOp
  simp only [ho, hp, Sem.run_bind, hb, Result.andThen_ok]
  exact h
theorem step_store (hgd : o.guard = none) (ty : TypeId) (x y : Operand) (ho : o.op = .store ty x y) (ad : Addr) (v : Value) (w' : World) (hx : a.eval x = .pointer (some ad)) (hy : a.eval y = v) (hs : (storeVar ty ad v).run Try.prog w = .ok () w') (h : K (a.put o.dst undef) w') :
    if Region.wanted o (yielded ops a.tmps) = true then Oper.wp Try.prog o a w K Q else E := by
  have hw : Region.wanted o (yielded ops a.tmps) = true := by simp [Region.wanted, hgd]
  rw [if_pos hw]
  unfold Oper.wp execOp
  simp only [ho, hx, hy, Instr.storeAt, Instr.sureAddr, Sem.run_bind, Sem.run_pure, Result.andThen_ok, hs]
  exact h
end
section
variable {P : Program} {ops : Array Oper} {rest : List Oper} {o : Oper} {a : Act} {w : World} {Q : Exit → Act → World → Prop}
theorem wpL_build (hgd : o.guard = none) (t : TypeId) (parts : Array (Nat × Operand)) (ho : o.op = .build t parts) (ps : List (Nat × Value)) (hp : (parts.map fun (i, x) => (i, a.eval x)).toList = ps) (cs : Array Value) (hb : P.built t ps = some cs) (h : wpList P ops Q rest (a.put o.dst (.agg cs)) w) : wpList P ops Q (o :: rest) a w := by
  refine wpList_build hgd t parts ho (by rw [hp, hb]; rfl) ?_
  rw [hp, hb]
  exact h
theorem wpL_bs (hgd : o.guard = none) (t : TypeId) (len : Nat) (parts : Array (Nat × Operand)) (ho : o.op = .buildSlice t len parts) (ps : Array (Nat × Value)) (hp : (parts.map fun (i, x) => (i, a.eval x)) = ps) (v : Value) (w' : World) (hb : (Instr.buildSlice t len ps).run P w = .ok v w') (h : wpList P ops Q rest (a.put o.dst v) w') : wpList P ops Q (o :: rest) a w :=
  wpList_plain hgd fun _ hK => by
    unfold Oper.wp execOp
    simp only [ho, hp, Sem.run_bind, hb, Result.andThen_ok]
    exact hK _ _ h
end
theorem fill_any (A Z : Array Value) (ha : A.size = 258) (hz : Z.size = 258) : Instr.fill (fun i => some (i * 258, 258)) Z [(0, .agg A)] = some A := by
  have := Go.Great.fill_whole (s := 258) (by decide) [Value.agg A] Z (fun v hv => by rw [List.mem_singleton.1 hv]; exact ha) (by rw [hz, List.length_singleton, Nat.one_mul])
  refine this.trans (congrArg some (Array.ext' ?_))
  simp [Value.cells]
theorem fill_on (o : On) (Z : Array Value) (hz : Z.size = 258) : Instr.fill (fun i => some (i * 258, 258)) Z [(0, .agg (onA o))] = some (onA o) := fill_any _ Z (on_size o) hz
set_option maxRecDepth 100000 in
theorem bs_on (o : On) (w : World) : (Instr.buildSlice 37 1 #[(0, .agg (onA o))]).run Try.prog w = .ok (.slice (some ⟨w.heap.size, 0, none⟩) 1 1) (w.alloc (.cells (onA o) 62)) := by
  cases hi : Try.prog.info? 62 with
  | none => have := info_on; rw [hi] at this; cases this
  | some i0 =>
    have hq := info_on
    rw [hi] at hq
    simp only [Option.map_some, Option.some.injEq, Prod.mk.injEq] at hq
    refine run_buildSlice w 37 62 1 _ _ i0 _ Try.underlying37 hi hq.1 (by rw [hq.2.1]; decide) (by rw [hq.2.1]; decide) ?_
    rw [hq.2.1]
    exact fill_on o _ (by simp)
/-- what an append of one record leaves -/
theorem rapp {w : World} {v : Value} {l : List On} (o : On) (b : Nat) (hv : w.ownsRow 0 62 258 v l.length (ons l)) (hb : w.heap[b]? = some (.cells (onA o) 62 (0, 0))) (hl : l.length ≤ 1000000) :
    ∃ v' w', (Builtin.append_ #[37, 37] 37 #[v, .slice (some ⟨b, 0, none⟩) 1 1]).run Try.prog w = .ok v' w' ∧ w'.ownsRow 0 62 258 v' (l ++ [o]).length (ons (l ++ [o])) ∧ w.grownBy w' v.ownBlock ∧ (v'.ownBlock = v.ownBlock ∨ v'.ownBlock = some w.heap.size) := by
  cases hi : Try.prog.info? 62 with
  | none => have := info_on; rw [hi] at this; cases this
  | some i0 =>
  have hq := info_on
  rw [hi] at hq
  simp only [Option.map_some, Option.some.injEq, Prod.mk.injEq] at hq
  obtain ⟨v', w', hr, ho, hgr, -, hat⟩ := run_append_own_at (P := Try.prog) w 0 37 37 62 i0 (.agg (onA on0)) 258 2064 Try.underlying37 hi hq.1 hq.2.1 hq.2.2 (on_size on0) (by decide) v l.length (ons l) hv ⟨b, 0, none⟩ 1 1 (ons [o]) (by rw [ons_len]; rfl) (fun j u hj => by
    rw [ons_one, Array.getElem?_toList] at hj
    rw [Addr.add_lit, Nat.zero_add, cell_of hb]
    exact hj) (ons_cells [o]) (by unfold maxLen; omega) (by omega) (Nat.zero_le _)
  exact ⟨v', w', hr, by rw [List.length_append, ons_app]; exact ho, hgr, hat⟩
theorem ldv_ref {w : World} {b off : Nat} {F : Nat → Int} (h : RA w b off F) : (loadVar 59 ⟨b, off, none⟩).run Try.prog w = .ok (.agg (ra F)) w := by
  unfold loadVar
  simp [loadCells, ld_ref h]
end Wq
end Go.Proofs.Ytfimfgffbfjkeaa
