/- Package crew, over this seat's program: Spawn. -/
import Derived.Test.YtgpmefbmbfbjcaaMc
namespace Go.Proofs.Ytgpmefbmbfbjcaa
open Go.ChangeShapes Go.WideShapes Go.ChangeAt Go.RowKit
namespace Cr
open Ba

theorem info_mb : (Try.prog.info? 59).map (fun i => (i.zero, i.size, i.bytes)) = some (some (tv 0 0 0), 3, 24) := by kernel_rfl
theorem spawn_nil (p : Int) (w : World) :
    Calls Try.prog 20 #[.pointer none, .int .i64 p] w fun r w' => r = .returned (.tuple #[.int .i64 0, .int .i64 (if p < 0 then 1 else 7)]) ∧ w' = w := by
  by_cases h1 : p < 0
  · rw [if_pos h1]
    go_enter Try.func20, Try.ntmps20
    go_wp2_with fail
    go_ret2
    exact ⟨rfl, rfl⟩
  · rw [if_neg h1]
    have d1 : decide (p < 0) = false := decide_eq_false h1
    go_enter Try.func20, Try.ntmps20
    go_wp2_with fail
    go_ret2
    exact ⟨rfl, rfl⟩
/-- what an append of one record leaves, behind the store into the header -/
theorem Cw.grow {T E : TypeId} {w w1 w2 : World} {B : Nat} {F : Nat → Prop} {oa oa' : Option Addr} {c c' : Nat} {l : List Mb} {x : Mb} (h : Cw T E w1 B F oa c l) (b1 : Below w.heap.size w w1) (hF : Bd F w) (hT : T ≠ E)
    (ho : w2.ownsRow 0 E 3 (.slice oa' (l ++ [x]).length c') (l ++ [x]).length (mc (l ++ [x]))) (hg : w1.grownBy w2 (Value.slice oa l.length c).ownBlock)
    (hat : (Value.slice oa' (l ++ [x]).length c').ownBlock = (Value.slice oa l.length c).ownBlock ∨ (Value.slice oa' (l ++ [x]).length c').ownBlock = some w1.heap.size) (hl : l.length < 512) :
    Po T E w (w2.setCell ⟨B, 0, none⟩ (.slice oa' (l ++ [x]).length c')) B F (l ++ [x]) := by
  have hB : some B ≠ (Value.slice oa l.length c).ownBlock := own_ty h.ow h.hp hT
  have hB2 : w2.heap[B]? = some (.cells #[.slice oa l.length c] T (0, 0)) := (hg.block B h.lt hB).trans h.hp
  have kf : KF F w w2 := by
    refine ⟨hg.os.trans b1.os, hg.tape.trans b1.tape, hg.output.trans b1.output, Nat.le_trans b1.size hg.size, fun k hk hn => ?_⟩
    refine (hg.block k (Nat.lt_of_lt_of_le hk b1.size) ?_).trans (b1.block k hk)
    intro e
    exact hn (h.fr k e.symm)
  refine ⟨_, ⟨oa', c', Cw.put hB2 ho hT h.fb ((hF.mono b1.size).mono hg.size) (by simp; omega)⟩, kf.set h.fb _ _, ?_⟩
  intro k hk
  rcases hk with q | q
  · exact .inl q
  · rcases hat with e | e
    · rw [e] at q
      exact .inl (h.fr k q)
    · rw [e] at q
      cases q
      exact .inr b1.size
set_option maxRecDepth 100000 in
set_option maxHeartbeats 1600000 in
theorem spawn_any (B : Nat) (F : Nat → Prop) (l : List Mb) (p : Int) (w : World) (h : PC w B F l) :
    Calls Try.prog 20 #[.pointer (some ⟨B, 0, none⟩), .int .i64 p] w fun r w' => r = .returned (.tuple #[.int .i64 (spV l p), .int .i64 (spE l p)]) ∧ Po 52 59 w w' B F (spL l p) := by
  unfold spV spE spL
  by_cases h1 : p < 0
  · simp only [if_pos h1]
    have H := hide h
    clear h
    go_enter Try.func20, Try.ntmps20
    go_wp2_with fail
    go_ret2
    exact ⟨rfl, Po.of H.out (Below.refl _ _)⟩
  simp only [if_neg h1]
  have d1 : decide (p < 0) = false := decide_eq_false h1
  have hle := h.le
  obtain ⟨oa, c, h⟩ := h
  have hB := h.lt
  have y0 : w.cell? ⟨B, 0, none⟩ = some (.slice oa l.length c) := cell_of h.hp 0
  by_cases h2 : 512 ≤ l.length
  · simp only [if_pos h2]
    have hl : l.length = 512 := by omega
    have H := hide h
    rw [hl] at y0
    clear h hl h2 hle
    go_enter Try.func20, Try.ntmps20
    go_wp2_with fail
    go_ret2
    exact ⟨rfl, Po.of ⟨_, _, H.out⟩ (Below.refl _ _)⟩
  simp only [if_neg h2]
  have e1 : (((l.length : Nat) : Int) == 512) = false := by rw [beq_eq_false_iff_ne]; omega
  have hl : l.length < 512 := by omega
  have BD := hide h.bd
  have b1 := below_alloc w (.cells #[.int .i64 p, .int .i64 0, .int .i64 0] 59)
  have B1 := hide b1
  have H1 := hide (h.below b1)
  have f0 : w.frozen? ⟨B, 0, none⟩ = false := frozen_of h.hp 0
  cases hi : Try.prog.info? 59 with
  | none => have := info_mb; rw [hi] at this; cases this
  | some i0 =>
  have hx := info_mb
  rw [hi] at hx
  simp at hx
  have INF := hide (And.intro hi hx)
  clear hx hi h2 hle h b1
  go_enter Try.func20, Try.ntmps20
  go_wp2_with (at_builtin; refine wpList_append_own_at _ rfl _ _ 50 rfl 0 59 i0 (tv 0 0 0) 3 24 Try.underlying50 INF.out.1 INF.out.2.1 INF.out.2.2.1 INF.out.2.2.2 rfl (by decide) _ _ _ rfl H1.out.ow ⟨w.heap.size, 0, none⟩ 1 1 (mc [⟨p, 0, 0⟩]) rfl rfl ?c1 ?c2 ?c3 ?c4 (Nat.zero_le _) ?_)
  case c1 => first | exact src3 w ⟨p, 0, 0⟩ _ | exact fun j u hj => hj
  case c2 => exact mc_one _
  case c3 => unfold maxLen; omega
  case c4 => omega
  intro v' w2 ho hg _ hat
  rw [← mc_app] at ho
  have ho2 : w2.ownsRow 0 59 3 v' (l ++ [Mb.mk p 0 0]).length (mc (l ++ [Mb.mk p 0 0])) := by rw [List.length_append]; exact ho
  obtain ⟨oa', c', rfl, _, _⟩ := owns_mat ho2
  have hB1 : some B ≠ (Value.slice oa l.length c).ownBlock := own_ty H1.out.ow H1.out.hp (by decide)
  have hB2 : w2.heap[B]? = some (.cells #[.slice oa l.length c] 52 (0, 0)) := (hg.block B H1.out.lt hB1).trans H1.out.hp
  have y2 : w2.cell? ⟨B, 0, none⟩ = some (.slice oa l.length c) := cell_of hB2 0
  have f2 : w2.frozen? ⟨B, 0, none⟩ = false := frozen_of hB2 0
  have PO := hide (H1.out.grow B1.out BD.out (by decide) ho2 hg (by rw [World.size_alloc]; exact hat) hl)
  clear ho ho2 hg hat hB1 hB2
  generalize (l ++ [Mb.mk p 0 0]).length = n2 at PO ⊢
  go_wp2_with fail
  go_ret2
  exact ⟨rfl, PO.out⟩
end Cr
end Go.Proofs.Ytgpmefbmbfbjcaa
