import Derived.Test.YtkkgbeaaekmhfaaGreatZjGl11
import Derived.Lib.Slices
import Derived.Deep.RegionHeld3
import Derived.Deep.LoopGhost
import Derived.SizedLaws
namespace Go.Proofs.YtkkgbeaaekmhfaaGreat
open Go.ChangeShapes Go.WideShapes Go.ChangeAt Go.RowKit
namespace Lo
open Ba
theorem field_ps (u : World) (a b d e : Value) (x : Option Addr) (y z : Nat) : (Instr.field 25 (.agg #[a, b, .slice x y z, d, e]) 2).run Tryz.prog u = .ok (.slice x y z) u := by
 simp [Instr.field, run_underlying Tryz.underlying25, asAgg, part, isAgg, run_underlying Tryz.underlying22]
theorem info_pp : (Tryz.prog.info? 126).map (fun i => (i.zero, i.size, i.bytes)) = some (some (.pointer none), 1, 8) := by kernel_rfl
theorem made8 : madeCells (Value.cells (.pointer none)) 8 = #[.pointer none, .pointer none, .pointer none, .pointer none, .pointer none, .pointer none, .pointer none, .pointer none] := by
 apply Array.toList_inj.1
 rw [madeCells, Array.toList_map, Array.toList_range]
 rfl
theorem mk8 (u : World) : (Instr.makeSlice 60 (.int .i64 8) (.int .i64 8)).run Tryz.prog u = .ok (.slice (some ⟨u.heap.size, 0, none⟩) 8 8) (u.alloc (.cells #[.pointer none, .pointer none, .pointer none, .pointer none, .pointer none, .pointer none, .pointer none, .pointer none] 126)) := by
 obtain ⟨i0, hi, hz0, hz1, hz2⟩ := info_parts info_pp
 have := run_make (P := Tryz.prog) u 60 126 i0 (.pointer none) Tryz.underlying60 hi hz0 .i64 .i64 8 8 (by omega) (Int.le_refl _) (by rw [hz2]; omega) (by omega)
 rw [hz1] at this
 rw [← made8]
 exact this
set_option maxRecDepth 100000 in
set_option maxHeartbeats 1600000 in
theorem new_err (T M : Int) (ps : List (List OpD)) (pl dr : List Int) (pa la da : Option Addr) (pc lc dc : Nat) (w : World) (hS : Sh.SAt w ⟨T, M, ps, pl, dr⟩ pa la da) (x : Int) (hx : Sh.schk ⟨T, M, ps, pl, dr⟩ = x) (h0 : x ≠ 0) :
 Calls Tryz.prog 13 #[.agg #[.int .i64 T, .int .i64 M, .slice pa ps.length pc, .slice la pl.length lc, .slice da dr.length dc]] w fun r w' => r = .returned (.tuple #[.pointer none, .int .i64 x]) ∧ Below w.heap.size w w' := by
 have CK := hide (Sh.scheck_any T M ps pl dr pa la da pc lc dc (w.alloc (.cells #[.int .i64 T, .int .i64 M, .slice pa ps.length pc, .slice la pl.length lc, .slice da dr.length dc] 25)) (hS.below (below_alloc _ _)))
 rw [hx] at CK
 have h0' : (x != 0) = true := by simp [h0]
 clear hS
 go_enter Tryz.func13, Tryz.ntmps13
 go_wp2_with fail
 refine CK.out.mono ?_
 rintro r w1 ⟨rfl, b1⟩
 have B1 := hide (btr (below_alloc w (.cells #[.int .i64 T, .int .i64 M, .slice pa ps.length pc, .slice la pl.length lc, .slice da dr.length dc] 25)) b1)
 clear b1
 go_wp2_with fail
 go_ret2
 exact ⟨rfl, B1.out⟩
theorem pf_keep {w w' : World} {N : Nat} {arr : Array Value} {ps : List (List OpD)} (h : Sh.PF w N arr ps) (hk : ∀ x, N ≤ x → x < w.heap.size → w'.heap[x]? = w.heap[x]?) : Sh.PF w' N arr ps := by
 intro t q ht
 obtain ⟨g, c, h1, h2, h3, h4⟩ := h t q ht
 refine ⟨g, c, h1, fun j o hj => ?_, h3, h4⟩
 obtain ⟨ca, cc, ⟨k0, k1, k2, k3, k4⟩, hC, hN, hl⟩ := h2 j o hj
 have e := hk g h3 (World.block_lt_of_cell? w _ k0)
 refine ⟨ca, cc, ⟨?_, ?_, ?_, ?_, ?_⟩, cat_keep hC (fun a ea hla => hk _ (by have := hN a ea; omega) hla), hN, hl⟩
 ·rw [← k0]; simp only [World.cell?, e]
 ·rw [← k1]; simp only [World.cell?, e]
 ·rw [← k2]; simp only [World.cell?, e]
 ·rw [← k3]; simp only [World.cell?, e]
 ·rw [← k4]; simp only [World.cell?, e]
def lz (G n B X : Nat) : Array Value := #[.slice (some ⟨G, 0, none⟩) n n, .pointer none, .pointer (some ⟨B, 0, none⟩), .slice (some ⟨X, 0, none⟩) 8 8, .int .i64 0, .int .i64 0, .int .i64 0, .int .i64 0, .int .i64 0, .int .i64 0, .int .i64 0, .int .i64 0, .int .i64 0, .slice none 0 0, .bool false]
structure NF (w wF : World) (L G B X : Nat) (ps : List (List OpD)) : Prop where
 hl : wF.heap[L]? = some (.cells (lz G ps.length B X) 64 (0, 0))
 hx : wF.heap[X]? = some (.cells #[.pointer none, .pointer none, .pointer none, .pointer none, .pointer none, .pointer none, .pointer none, .pointer none] 126 (0, 0))
 hb : Cr.PC wF B (fun k => k = B) []
 st : ∃ lo hi, (∀ w', (∀ x, lo ≤ x → x < hi → w'.heap[x]? = wF.heap[x]?) → Sh.PAt w' (some ⟨G, 0, none⟩) ps) ∧ (w.heap.size ≤ lo ∧ hi ≤ L) ∧ (B < lo ∨ hi ≤ B) ∧ (X < lo ∨ hi ≤ X)
 ne : B ≠ X ∧ B < L ∧ X < L
 ge : w.heap.size ≤ B ∧ w.heap.size ≤ X
 bl : Below w.heap.size w wF
theorem nf_static {u0 uC wF : World} {G : Nat} {arr : Array Value} {ps : List (List OpD)} {t : TypeId} (hG : uC.heap[G]? = some (.cells arr t (0, 0))) (hPF : Sh.PF uC (u0.heap.size + 1) arr ps) (hGlt : u0.heap.size < G) (bF : Below uC.heap.size uC wF) :
 ∀ w', (∀ x, u0.heap.size ≤ x → x < uC.heap.size → w'.heap[x]? = wF.heap[x]?) → Sh.PAt w' (some ⟨G, 0, none⟩) ps := by
 intro w' h
 have e : ∀ x, u0.heap.size ≤ x → x < uC.heap.size → w'.heap[x]? = uC.heap[x]? := fun x h1 h2 => (h x h1 h2).trans (bF.block x h2)
 exact Sh.PF.at (pf_keep hPF (fun x h1 h2 => e x (by omega) h2)) ((e G (by omega) (heap_lt hG)).trans hG)
section
variable {w w1 uC uK : World} {G : Nat} {arr : Array Value} {ps : List (List OpD)}
theorem nf1 (b1 : Below w.heap.size w w1) (bC : Below w1.drew.heap.size w1.drew uC) (hG : uC.heap[G]? = some (.cells arr 45 (0, 0))) (hPF : Sh.PF uC (w1.drew.heap.size + 1) arr ps) (hGlt : w1.drew.heap.size < G) (pK : Cr.PC uK uC.heap.size (fun k => k = uC.heap.size) []) (bK : Below uC.heap.size uC uK) :
 NF w ((uK.alloc (.cells #[.pointer none, .pointer none, .pointer none, .pointer none, .pointer none, .pointer none, .pointer none, .pointer none] 126)).alloc (.cells (lz G ps.length uC.heap.size uK.heap.size) 64)) (uK.heap.size + 1) G uC.heap.size uK.heap.size ps := by
 have ba := btr (below_alloc uK (.cells #[.pointer none, .pointer none, .pointer none, .pointer none, .pointer none, .pointer none, .pointer none, .pointer none] 126)) (below_alloc _ (.cells (lz G ps.length uC.heap.size uK.heap.size) 64))
 have s1 := b1.size
 have s2 : w1.heap.size ≤ uC.heap.size := bC.size
 have s3 := pK.lt
 refine ⟨En.heap_new2 _ _ _, heap_below (heap_new _ _) (below_alloc _ _), pK.below ba, ⟨w1.heap.size, uC.heap.size, nf_static (u0 := w1.drew) hG hPF hGlt (btr bK ba), by omega, by omega, by omega⟩, by omega, by omega, btr b1 (btr (bdrew1 w1) (btr bC (btr bK ba)))⟩
theorem nf2 (b1 : Below w.heap.size w w1) (bC : Below w1.drew.heap.size w1.drew uC) (hG : uC.heap[G]? = some (.cells arr 45 (0, 0))) (hPF : Sh.PF uC (w1.drew.heap.size + 1) arr ps) (hGlt : w1.drew.heap.size < G) (pK : Cr.PC uK (uC.alloc (.cells #[.pointer none, .pointer none, .pointer none, .pointer none, .pointer none, .pointer none, .pointer none, .pointer none] 126)).heap.size (fun k => k = (uC.alloc (.cells #[.pointer none, .pointer none, .pointer none, .pointer none, .pointer none, .pointer none, .pointer none, .pointer none] 126)).heap.size) []) (bK : Below (uC.alloc (.cells #[.pointer none, .pointer none, .pointer none, .pointer none, .pointer none, .pointer none, .pointer none, .pointer none] 126)).heap.size (uC.alloc (.cells #[.pointer none, .pointer none, .pointer none, .pointer none, .pointer none, .pointer none, .pointer none, .pointer none] 126)) uK) :
 NF w (uK.alloc (.cells (lz G ps.length (uC.heap.size + 1) uC.heap.size) 64)) uK.heap.size G (uC.heap.size + 1) uC.heap.size ps := by
 rw [World.size_alloc] at pK
 have ba := below_alloc uK (.cells (lz G ps.length (uC.heap.size + 1) uC.heap.size) 64)
 have bc := below_alloc uC (.cells #[.pointer none, .pointer none, .pointer none, .pointer none, .pointer none, .pointer none, .pointer none, .pointer none] 126)
 have s1 := b1.size
 have s2 : w1.heap.size ≤ uC.heap.size := bC.size
 have s3 := pK.lt
 refine ⟨heap_new _ _, heap_below (heap_new _ _) (btr bK ba), pK.below ba, ⟨w1.heap.size, uC.heap.size, nf_static (u0 := w1.drew) hG hPF hGlt (btr bc (btr bK ba)), by omega, by omega, by omega⟩, by omega, by omega, btr b1 (btr (bdrew1 w1) (btr bC (btr bc (btr bK ba))))⟩
theorem nf3 (b1 : Below w.heap.size w w1) (bC : Below (w1.alloc (.cells #[.pointer none, .pointer none, .pointer none, .pointer none, .pointer none, .pointer none, .pointer none, .pointer none] 126)).drew.heap.size (w1.alloc (.cells #[.pointer none, .pointer none, .pointer none, .pointer none, .pointer none, .pointer none, .pointer none, .pointer none] 126)).drew uC) (hG : uC.heap[G]? = some (.cells arr 45 (0, 0))) (hPF : Sh.PF uC ((w1.alloc (.cells #[.pointer none, .pointer none, .pointer none, .pointer none, .pointer none, .pointer none, .pointer none, .pointer none] 126)).drew.heap.size + 1) arr ps) (hGlt : (w1.alloc (.cells #[.pointer none, .pointer none, .pointer none, .pointer none, .pointer none, .pointer none, .pointer none, .pointer none] 126)).drew.heap.size < G) (pK : Cr.PC uK uC.heap.size (fun k => k = uC.heap.size) []) (bK : Below uC.heap.size uC uK) :
 NF w (uK.alloc (.cells (lz G ps.length uC.heap.size w1.heap.size) 64)) uK.heap.size G uC.heap.size w1.heap.size ps := by
 have ba := below_alloc uK (.cells (lz G ps.length uC.heap.size w1.heap.size) 64)
 have bx := btr (below_alloc w1 (.cells #[.pointer none, .pointer none, .pointer none, .pointer none, .pointer none, .pointer none, .pointer none, .pointer none] 126)) (bdrew1 _)
 have s1 := b1.size
 have sx : (w1.alloc (.cells #[.pointer none, .pointer none, .pointer none, .pointer none, .pointer none, .pointer none, .pointer none, .pointer none] 126)).drew.heap.size = w1.heap.size + 1 := World.size_alloc _ _
 have s2 := bC.size
 rw [sx] at s2
 have s3 := pK.lt
 refine ⟨heap_new _ _, heap_below (heap_new _ _) (btr (bdrew1 _) (btr bC (btr bK ba))), pK.below ba, ⟨w1.heap.size + 1, uC.heap.size, ?_, by omega, by omega, by omega⟩, by omega, by omega, btr b1 (btr bx (btr bC (btr bK ba)))⟩
 have := nf_static (u0 := (w1.alloc (.cells #[.pointer none, .pointer none, .pointer none, .pointer none, .pointer none, .pointer none, .pointer none, .pointer none] 126)).drew) hG hPF hGlt (btr bK ba)
 rw [sx] at this
 exact this
end
def nmI (i : Nat) : List Int := List.replicate i (-1) ++ List.replicate (8 - i) 0
theorem nmI_len {i : Nat} (h : i ≤ 8) : (nmI i).length = 8 := by simp [nmI]; omega
theorem nmI_step {i : Nat} (h : i < 8) : (nmI i).set i (-1) = nmI (i + 1) := by
 rcases (show i = 0 ∨ i = 1 ∨ i = 2 ∨ i = 3 ∨ i = 4 ∨ i = 5 ∨ i = 6 ∨ i = 7 by omega) with rfl | rfl | rfl | rfl | rfl | rfl | rfl | rfl <;> rfl
theorem lcs_at (pa : Option Addr) (n pc C B X : Nat) (nm : List Int) (md : Int) (ta : Option Addr) (tn tc : Nat) (pk : Bool) {k : Nat} (hk : k < 8) : (lcs pa n pc C B X nm md ta tn tc pk)[4 + k]? = some (.int .i64 (nth nm k)) := by
 rcases (show k = 0 ∨ k = 1 ∨ k = 2 ∨ k = 3 ∨ k = 4 ∨ k = 5 ∨ k = 6 ∨ k = 7 by omega) with rfl | rfl | rfl | rfl | rfl | rfl | rfl | rfl <;> rfl
theorem new_lx {w wF wr : World} {L G B X C : Nat} {ps : List (List OpD)} {pl dr : List Int} (h : NF w wF L G B X ps)
 (hl : wr.heap[L]? = some (.cells (lcs (some ⟨G, 0, none⟩) ps.length ps.length C B X (nmI 8) 0 none 0 0 false) 64 (0, 0))) (hk : ∀ x, x < wF.heap.size → x ≠ L → wr.heap[x]? = wF.heap[x]?) (hsz : wF.heap.size ≤ wr.heap.size)
 (cu : Lk.Cu wr wF.heap.size C pl dr) (hC : wF.heap.size ≤ C) :
 ∃ col, LX wr col L wF.heap.size C B X (fun k => k = B) (some ⟨G, 0, none⟩) ps.length (List.replicate 8 none) (fun _ _ => False) none 0 ⟨ps, pl, dr, [], List.replicate 8 none, List.replicate 8 (-1), 0, [], false⟩ ∧ ∀ x, x < w.heap.size → col x = 7 := by
 obtain ⟨lo, hi, hst, ⟨g1, g2⟩, g3, g4⟩ := h.st
 obtain ⟨n1, n2, n3⟩ := h.ne
 obtain ⟨m1, m2⟩ := h.ge
 have hL := heap_lt h.hl
 have hrow : wr.heap[X]? = some (.cells ((List.replicate 8 none).map Pe.pt).toArray 126 (0, 0)) := (hk X (by omega) (by omega)).trans h.hx
 refine ⟨fun x => if x = L then 0 else if wF.heap.size ≤ x ∧ x ≤ C then 1 else if x = B then 2 else if x = X then 3 else if lo ≤ x ∧ x < hi then 6 else 7, ⟨hl, rfl, ?_, cu, hC, ?_, hrow, ?_, rfl, World.ownsRow_nil _ _ _ _, ?_, ?_, ?_, ?_, ?_, ?_⟩, ?_⟩
 ·intro w' hw
  refine hst w' fun x h1 h2 => ?_
  have hx : x < wF.heap.size := by omega
  refine (hw x (by omega) ?_).trans (hk x hx (by omega))
  rw [if_neg (by omega), if_neg (by omega), if_neg (by omega), if_neg (by omega), if_pos ⟨h1, h2⟩]
 ·obtain ⟨oa, c, q⟩ := h.hb
  exact ⟨oa, c, q.sm (fun x (e : x = B) => by rw [e]; exact hk B (by omega) (by omega))⟩
 ·refine ⟨pr_row hrow, rfl, fun i B' e => ?_, fun i e => ?_, fun _ _ _ _ hf => hf.elim, fun _ _ _ hf => hf, fun _ _ hf => hf.elim⟩
  ·have := List.mem_of_getElem? e
   simp at this
  ·have hi8 := (List.getElem?_eq_some_iff.1 e).1
   rw [List.length_replicate] at hi8
   rw [List.getElem?_replicate, if_pos hi8]
 ·simp
 ·intro x h1 h2
  rw [if_neg (by omega), if_pos ⟨h1, h2⟩]
 ·intro x (e : x = B)
  rw [if_neg (by omega), if_neg (by omega), if_pos e]
 ·rw [if_neg (by omega), if_neg (by omega), if_neg (by omega), if_pos rfl]
 ·intro _ _ hf
  exact hf.elim
 ·intro g e
  simp [Value.ownBlock] at e
 ·intro x hx
  show (if x = L then 0 else if wF.heap.size ≤ x ∧ x ≤ C then 1 else if x = B then 2 else if x = X then 3 else if lo ≤ x ∧ x < hi then 6 else 7) = 7
  rw [if_neg (by omega), if_neg (by omega), if_neg (by omega), if_neg (by omega), if_neg (by omega)]
set_option maxRecDepth 100000 in
set_option maxHeartbeats 3200000 in
theorem new_yes (T M : Int) (ps : List (List OpD)) (pl dr : List Int) (pa la da : Option Addr) (pc lc dc : Nat) (w : World) (hS : Sh.SAt w ⟨T, M, ps, pl, dr⟩ pa la da) (hx : Sh.schk ⟨T, M, ps, pl, dr⟩ = 0) :
 Calls Tryz.prog 13 #[.agg #[.int .i64 T, .int .i64 M, .slice pa ps.length pc, .slice la pl.length lc, .slice da dr.length dc]] w fun r w' => ∃ L col, r = .returned (.tuple #[.pointer (some ⟨L, 0, none⟩), .int .i64 0]) ∧ LW w' col L (newS ⟨T, M, ps, pl, dr⟩) ∧ (∀ x, x < w.heap.size → col x = 7) ∧ Below w.heap.size w w' := by
 obtain ⟨q1, q2, q3, q4, q5, q6, q7⟩ := schk_ok hx
 simp only at q1 q2 q3 q4 q5 q6 q7
 have sml : Sh.Small ps pl dr := ⟨by omega, fun q hq => by have := q2 q hq; omega, fun q hq o ho => by
  obtain ⟨a, ha⟩ := List.getElem?_of_mem hq
  obtain ⟨b, hb⟩ := List.getElem?_of_mem ho
  have := (op_ok (Sh.ari_of q5 ha hb)).2.2.1
  omega, by omega, by omega⟩
 have CK := hide (Sh.scheck_any T M ps pl dr pa la da pc lc dc (w.alloc (.cells #[.int .i64 T, .int .i64 M, .slice pa ps.length pc, .slice la pl.length lc, .slice da dr.length dc] 25)) (hS.below (below_alloc _ _)))
 rw [hx] at CK
 have CP := hide (fun u (hb : Below w.heap.size w u) => Sh.copy_any T M ps pl dr pa la da pc lc dc u (hS.below hb) sml)
 have NE : Pk.ne pl dr = 0 := by
  unfold Pk.ne
  have a1 : Pk.ab (-1) 1000 pl = true := (Pk.ab_iff _ _ _).2 q6
  have a2 : Pk.ab 0 1000 dr = true := (Pk.ab_iff _ _ _).2 q7
  have a3 : decide (200 < pl.length) = false := by simp; omega
  have a4 : decide (64 < dr.length) = false := by simp; omega
  rw [a1, a2, a3, a4]
  rfl
 have PN := hide (fun u (hb : Below w.heap.size w u) => Lk.new_cu la da pl dr lc dc u (hS.pl.below hb) (hS.dr.below hb) NE)
 have HS := hide hS
 clear hS NE
 go_enter Tryz.func13, Tryz.ntmps13
 go_wp2_with fail
 refine CK.out.mono ?_
 rintro r w1 ⟨rfl, b1⟩
 have E1 := hide (heap_below (heap_new w (.cells #[.int .i64 T, .int .i64 M, .slice pa ps.length pc, .slice la pl.length lc, .slice da dr.length dc] 25)) b1)
 have B1 := hide (btr (below_alloc w (.cells #[.int .i64 T, .int .i64 M, .slice pa ps.length pc, .slice la pl.length lc, .slice da dr.length dc] 25)) b1)
 have c0 : w1.cell? ⟨w.heap.size, 0, none⟩ = some (.int .i64 T) := cell_of E1.out 0
 have c1 : w1.cell? ⟨w.heap.size, 1, none⟩ = some (.int .i64 M) := cell_of E1.out 1
 have c2 : w1.cell? ⟨w.heap.size, 2, none⟩ = some (.slice pa ps.length pc) := cell_of E1.out 2
 have c3 : w1.cell? ⟨w.heap.size, 3, none⟩ = some (.slice la pl.length lc) := cell_of E1.out 3
 have c4 : w1.cell? ⟨w.heap.size, 4, none⟩ = some (.slice da dr.length dc) := cell_of E1.out 4
 have ne0 := World.new_ne w1 _ c0
 have ne1 := World.new_ne w1 _ c1
 have ne2 := World.new_ne w1 _ c2
 have ne3 := World.new_ne w1 _ c3
 have ne4 := World.new_ne w1 _ c4
 clear b1 CK
 have hfp := field_ps
 have hmk := mk8
 go_wp2_with fail
 go_region_held3 (fun w' => w'.cell? ⟨w.heap.size, 0, none⟩ = some (.int .i64 T) ∧ w'.cell? ⟨w.heap.size, 1, none⟩ = some (.int .i64 M) ∧ w'.cell? ⟨w.heap.size, 2, none⟩ = some (.slice pa ps.length pc) ∧ w'.cell? ⟨w.heap.size, 3, none⟩ = some (.slice la pl.length lc) ∧ w'.cell? ⟨w.heap.size, 4, none⟩ = some (.slice da dr.length dc))
  (first | (go_keep; done) | (go_split_ands; refine ⟨?_, ?_, ?_, ?_, ?_⟩ <;> (refine Sh.cellB ?_ bC; assumption)) | (go_split_ands; refine ⟨?_, ?_, ?_, ?_, ?_⟩ <;> (refine Sh.cellB ?_ bK; assumption)))
  (first
    | (go_at_call 30; refine (CP.out _ (by first | exact btr B1.out (bdrew1 _) | exact btr B1.out (btr (below_alloc _ _) (bdrew1 _)) | exact btr B1.out (btr (bdrew1 _) (below_alloc _ _)))).mono ?_; rintro r uC ⟨⟨G, L', D', arr, rfl, ⟨hG, hPF, hGlt⟩, -, -, -⟩, bC⟩)
    | (go_at_call 31; refine (Cr.new_any _).mono ?_; rintro r uK ⟨rfl, pK, bK⟩))
 case' _ => have NFF := hide (nf1 B1.out bC hG hPF hGlt pK bK)
 rotate_left
 case' _ => have NFF := hide (nf2 B1.out bC hG hPF hGlt pK bK)
 rotate_left
 case' _ => have NFF := hide (nf3 B1.out bC hG hPF hGlt pK bK)
 rotate_left
 all_goals
  rename_i hH
  unfold lz at NFF
  clear bC hG hPF hGlt pK bK c0 c1 c2 c3 c4 ne0 ne1 ne2 ne3 ne4 E1 B1
 case' _ =>
  generalize (uK.alloc (.cells #[.pointer none, .pointer none, .pointer none, .pointer none, .pointer none, .pointer none, .pointer none, .pointer none] 126)).alloc (.cells #[.slice (some ⟨G, 0, none⟩) ps.length ps.length, .pointer none, .pointer (some ⟨uC.heap.size, 0, none⟩), .slice (some ⟨uK.heap.size, 0, none⟩) 8 8, .int .i64 0, .int .i64 0, .int .i64 0, .int .i64 0, .int .i64 0, .int .i64 0, .int .i64 0, .int .i64 0, .int .i64 0, .slice none 0 0, .bool false] 64) = wF at *
  generalize uK.heap.size + 1 = L at *
  generalize uC.heap.size = B at *
  generalize uK.heap.size = X at *
 rotate_left
 case' _ =>
  generalize uK.alloc (.cells #[.slice (some ⟨G, 0, none⟩) ps.length ps.length, .pointer none, .pointer (some ⟨uC.heap.size + 1, 0, none⟩), .slice (some ⟨uC.heap.size, 0, none⟩) 8 8, .int .i64 0, .int .i64 0, .int .i64 0, .int .i64 0, .int .i64 0, .int .i64 0, .int .i64 0, .int .i64 0, .int .i64 0, .slice none 0 0, .bool false] 64) = wF at *
  generalize uC.heap.size + 1 = B at *
  generalize uC.heap.size = X at *
  generalize uK.heap.size = L at *
 rotate_left
 case' _ =>
  generalize uK.alloc (.cells #[.slice (some ⟨G, 0, none⟩) ps.length ps.length, .pointer none, .pointer (some ⟨uC.heap.size, 0, none⟩), .slice (some ⟨w1.heap.size, 0, none⟩) 8 8, .int .i64 0, .int .i64 0, .int .i64 0, .int .i64 0, .int .i64 0, .int .i64 0, .int .i64 0, .int .i64 0, .int .i64 0, .slice none 0 0, .bool false] 64) = wF at *
  generalize uC.heap.size = B at *
  generalize w1.heap.size = X at *
  generalize uK.heap.size = L at *
 rotate_left
 all_goals
  obtain ⟨-, -, -, d3, d4⟩ := hH
  have PNF := hide (PN.out wF NFF.out.bl)
  have FL := hide NFF.out.hl
  have f1 := frozen_of NFF.out.hl 1
  have g1 := cell_of NFF.out.hl 1
  simp [lz] at g1
  have hLF := heap_lt NFF.out.hl
  clear PN CP HS
  go_wp2_with fail
  refine PNF.out.mono ?_
  rintro r w5 ⟨C, rfl, hC, cu5, b5⟩
  have L5 := hide (heap_below FL.out b5)
  have y1 := cell_of L5.out 1
  have yf := frozen_of L5.out 1
  simp [lz] at y1
  have L6 : Hid ((w5.setCell ⟨L, 1, none⟩ (.pointer (some ⟨C, 0, none⟩))).heap[L]? = some (.cells (lcs (some ⟨G, 0, none⟩) ps.length ps.length C B X (nmI 0) 0 none 0 0 false) 64 (0, 0))) := (Ba.heap_setCell_same L5.out _).trans rfl
  have K6 : Hid (∀ x, x < wF.heap.size → x ≠ L → (w5.setCell ⟨L, 1, none⟩ (.pointer (some ⟨C, 0, none⟩))).heap[x]? = wF.heap[x]?) := fun x h1 h2 => (((KB.refl L w5).setCell 1 _).block x (Nat.lt_of_lt_of_le h1 b5.size) h2).trans (b5.block x h1)
  have S6 : Hid (wF.heap.size ≤ (w5.setCell ⟨L, 1, none⟩ (.pointer (some ⟨C, 0, none⟩))).heap.size) := Nat.le_trans b5.size ((KB.refl L w5).setCell 1 _).size
  have U6 := hide (cu5.keep (w' := w5.setCell ⟨L, 1, none⟩ (.pointer (some ⟨C, 0, none⟩))) (fun x h1 h2 => ((KB.refl L w5).setCell 1 _).block x (Nat.lt_of_le_of_lt h2 cu5.lt) (by omega)) hC)
  have O6 : Hid ((w5.setCell ⟨L, 1, none⟩ (.pointer (some ⟨C, 0, none⟩))).os = w.os ∧ (w5.setCell ⟨L, 1, none⟩ (.pointer (some ⟨C, 0, none⟩))).tape = w.tape ∧ (w5.setCell ⟨L, 1, none⟩ (.pointer (some ⟨C, 0, none⟩))).output = w.output) := ⟨b5.os.trans NFF.out.bl.os, b5.tape.trans NFF.out.bl.tape, b5.output.trans NFF.out.bl.output⟩
  clear cu5 b5 PNF f1 g1 L5 FL
  go_wp2_with fail
  go_loopw [30] (fun iv wr => ∃ i : Nat, i ≤ 8 ∧ iv = .int .i64 i ∧ wr.heap[L]? = some (.cells (lcs (some ⟨G, 0, none⟩) ps.length ps.length C B X (nmI i) 0 none 0 0 false) 64 (0, 0)) ∧ KB L (w5.setCell ⟨L, 1, none⟩ (.pointer (some ⟨C, 0, none⟩))) wr) (fun iv _ => 8 - (intOf iv).toNat)
  case atStart => exact ⟨0, by omega, rfl, L6.out, KB.refl _ _⟩
  case round =>
   obtain ⟨i, hi, rfl, hlr, hkr⟩ := hrel
   have HLR := hide hlr
   have HKR := hide hkr
   clear hlr hkr
   by_cases hlt : i < 8
   ·have hlt' : (i : Int) < 8 := by omega
    have hi0 : (0 : Int) ≤ (i : Int) := by omega
    have u0 : wr.cell? ⟨L, 4 + i, none⟩ = some (.int .i64 (nth (nmI i) i)) := (cell_of HLR.out (4 + i)).trans (lcs_at _ _ _ _ _ _ _ _ _ _ _ _ hlt)
    have uf : wr.frozen? ⟨L, 4 + i, none⟩ = false := frozen_of HLR.out (4 + i)
    go_wp2_with fail
    go_roundw
    case rel =>
     refine ⟨i + 1, by omega, by go_num, ?_, HKR.out.setCell _ _⟩
     rw [Ba.heap_setCell_same HLR.out, lcs_num _ _ _ _ _ _ _ _ _ _ _ _ i (-1) (nmI_len hi) hlt, nmI_step hlt]
    case measure => simp [intOf]; omega
   ·have hlt' : ¬ ((i : Int) < 8) := by omega
    obtain rfl : i = 8 := by omega
    obtain ⟨col, hX, h7⟩ := new_lx NFF.out HLR.out (fun x h1 h2 => (HKR.out.block x (Nat.lt_of_lt_of_le h1 S6.out) h2).trans (K6.out x h1 h2)) (Nat.le_trans S6.out HKR.out.size) (U6.out.keep (fun x h1 h2 => HKR.out.block x (Nat.lt_of_le_of_lt h2 U6.out.lt) (by omega)) hC) hC
    have HX := hide hX
    have H7 := hide h7
    have SP := hide (Cr.spawn_any B (fun k => k = B) [] 0 wr hX.cr)
    have y2 : wr.cell? ⟨L, 2, none⟩ = some (.pointer (some ⟨B, 0, none⟩)) := cell_of hX.hp 2
    have bw : Hid (Below w.heap.size w wr) := by
     have q := NFF.out.ge
     have q2 := NFF.out.ne
     refine ⟨HKR.out.os.trans O6.out.1, HKR.out.tape.trans O6.out.2.1, HKR.out.output.trans O6.out.2.2, ?_, fun x hx => ?_⟩
     ·exact Nat.le_trans (Nat.le_trans NFF.out.bl.size S6.out) HKR.out.size
     ·have hxF : x < wF.heap.size := Nat.lt_of_lt_of_le hx NFF.out.bl.size
      exact (HKR.out.block x (Nat.lt_of_lt_of_le hxF S6.out) (by omega)).trans ((K6.out x hxF (by omega)).trans (NFF.out.bl.block x hx))
    clear hX h7 K6 S6 U6 O6 L6
    go_wp2_with fail
    refine SP.out.mono ?_
    rintro r w8 ⟨rfl, p8⟩
    obtain ⟨FB8, col8, h8, t8⟩ := HX.out.crew p8
    have H8 := hide h8
    have B8 : Hid (Below w.heap.size w w8) := ⟨t8.os.trans bw.out.os, t8.tape.trans bw.out.tape, t8.output.trans bw.out.output, Nat.le_trans bw.out.size t8.size, fun x hx => (t8.block x (Nat.lt_of_lt_of_le hx bw.out.size) (by rw [H7.out x hx]; omega)).trans (bw.out.block x hx)⟩
    have C8 : Hid (∀ x, x < w.heap.size → col8 x = 7) := fun x hx => (t8.old x (Nat.lt_of_lt_of_le hx bw.out.size)).trans (H7.out x hx)
    clear h8 t8 p8 SP
    go_wp2_with fail
    go_ret2
    exact ⟨L, col8, rfl, H8.out.lw, C8.out, B8.out⟩
end Lo
end Go.Proofs.YtkkgbeaaekmhfaaGreat
namespace Go.Proofs.YtkkgbeaaekmhfaaGreat
open Go.ChangeShapes Go.WideShapes Go.ChangeAt Go.RowKit
namespace Sh
open De Ba Re
def bar (l : List Int) : List Int := l.filter fun n => !(n == -1)
theorem kb_setCells (R : Nat) (w : World) : ∀ (vs : List Value) (o : Nat) (w' : World), De.KB R w w' → De.KB R w (w'.setCells R o vs)
 | [], _, _, h => h
 | v :: vs, o, w', h => kb_setCells R w vs (o + 1) (w'.setCell ⟨R, o, none⟩ v) (h.setCell o v)
theorem bar_all {l : List Int} (h : ∀ k, k < l.length → nth l k ≠ -1) : bar l = l := by
 unfold bar
 rw [List.filter_eq_self]
 intro x hx
 obtain ⟨k, hk, rfl⟩ := List.mem_iff_getElem.1 hx
 have := h k hk
 rw [nth_lt l k hk] at this
 simpa using this
theorem bar_take (l : List Int) (k : Nat) (h : k < l.length) : bar (l.take (k + 1)) = bar (l.take k) ++ (bif nth l k == -1 then [] else [nth l k]) := by
 unfold bar
 rw [List.take_succ_eq_append_getElem h, List.filter_append, nth_lt l k h]
 cases hx : l[k] == -1 <;> simp [hx]
theorem bar_len (l : List Int) (k : Nat) : (bar (l.take k)).length ≤ k := by
 have h1 := List.length_filter_le (fun n : Int => !(n == -1)) (l.take k)
 have h2 := List.length_take_le k l
 unfold bar
 omega
theorem zero_int : ∀ w, (zeroValue 3).run Tryz.prog w = .ok (.int .i64 0) w := fun w => by
 obtain ⟨i0, hi, hz0, _, _⟩ := info_parts Ba.info_int
 simp [zeroValue, typeInfo, hi, hz0]
theorem set_take (cur : List Int) (i : Nat) (x : Int) (h : i < cur.length) : (cur.set i x).take (i + 1) = cur.take i ++ [x] := by
 rw [List.take_set, List.take_succ_eq_append_getElem h, List.set_append_right _ _ (by rw [List.length_take]; omega), List.length_take, Nat.min_eq_left (by omega), Nat.sub_self]
 rfl
theorem nth_set_ne (cur : List Int) (i t : Nat) (x : Int) (h : i ≠ t) : nth (cur.set i x) t = nth cur t := by
 unfold nth
 rw [List.getD_eq_getElem?_getD, List.getD_eq_getElem?_getD, List.getElem?_set_ne h]
end Sh
end Go.Proofs.YtkkgbeaaekmhfaaGreat
namespace Go.Proofs.YtkkgbeaaekmhfaaGreat
open Go.ChangeShapes Go.WideShapes Go.ChangeAt Go.RowKit
namespace Sh
open De Ba Re
def BRes (w : World) (T M : Int) (ps : List (List OpD)) (pl dr : List Int) (r : Ending) (w' : World) : Prop :=
 ∃ G L D arr, r = .returned (.agg #[.int .i64 T, .int .i64 M, .slice (some ⟨G, 0, none⟩) ps.length ps.length, .slice (some ⟨L, 0, none⟩) (bar pl).length pl.length, .slice (some ⟨D, 0, none⟩) dr.length dr.length]) ∧ (w'.heap[G]? = some (.cells arr 45 (0, 0)) ∧ PF w' (w.heap.size + 1) arr ps ∧ w.heap.size < G) ∧ (At w' (some ⟨L, 0, none⟩) (bar pl) ∧ G < L) ∧ w'.heap[D]? = some (.cells (row dr) 3 (0, 0)) ∧ L < D
theorem sc_frozen {w : World} {B : Nat} {v0 v1 v2 v3 v4 : Value} {t : TypeId} (h : w.heap[B]? = some (.cells #[v0, v1, v2, v3, v4] t (0, 0))) : w.frozen? ⟨B, 0, none⟩ = false ∧ w.frozen? ⟨B, 1, none⟩ = false ∧ w.frozen? ⟨B, 2, none⟩ = false ∧ w.frozen? ⟨B, 3, none⟩ = false ∧ w.frozen? ⟨B, 4, none⟩ = false :=
 ⟨frozen_of h 0, frozen_of h 1, frozen_of h 2, frozen_of h 3, frozen_of h 4⟩
theorem row_only {pl : List Int} {i : Nat} {v : Value} (h : (row pl)[i]? = some v) : ∃ n, v = .int .i64 n := by
 rw [row, List.getElem?_toArray, List.getElem?_map] at h
 cases hx : pl[i]? with
 | none => rw [hx] at h; cases h
 | some n => rw [hx] at h; exact ⟨n, (Option.some.inj h).symm⟩
theorem OF.kb_row {w w' : World} {N g L : Nat} {l : List OpD} {pl : List Int} {t : TypeId} {fr : Nat × Nat} (h : OF w N g l) (k : De.KB L w w') (hL : w.heap[L]? = some (.cells (row pl) t fr)) : OF w' N g l := by
 intro i o hi
 obtain ⟨ca, cc, ⟨q0, q1, q2, q3, q4⟩, hC, hN, h3⟩ := h i o hi
 have hg : g ≠ L := by
  rintro rfl
  rw [cell_of hL] at q3
  obtain ⟨n, e⟩ := row_only q3
  cases e
 refine ⟨ca, cc, ⟨kb_cell k q0 hg, kb_cell k q1 hg, kb_cell k q2 hg, kb_cell k q3 hg, kb_cell k q4 hg⟩, cat_kb' k hC ?_, hN, h3⟩
 intro a e hne hb
 cases hc : o.cases with
 | nil => exact hne hc
 | cons x xs =>
   obtain ⟨b, off, e2, y0, _⟩ := hC 0 x (by rw [hc]; rfl)
   rw [e] at e2
   cases e2
   simp only at hb
   subst hb
   rw [cell_of hL] at y0
   obtain ⟨n, e⟩ := row_only y0
   cases e
theorem PF.kb_row {w w' : World} {N L : Nat} {arr : Array Value} {ps : List (List OpD)} {pl : List Int} {t : TypeId} {fr : Nat × Nat} (h : PF w N arr ps) (k : De.KB L w w') (hL : w.heap[L]? = some (.cells (row pl) t fr)) : PF w' N arr ps := by
 intro i q hi
 obtain ⟨g, c, h1, h2, h3, h4⟩ := h i q hi
 exact ⟨g, c, h1, h2.kb_row k hL, h3, h4⟩
end Sh
end Go.Proofs.YtkkgbeaaekmhfaaGreat
namespace Go.Proofs.YtkkgbeaaekmhfaaGreat
open Go.ChangeShapes Go.WideShapes Go.ChangeAt Go.RowKit
namespace Sh
open De Ba Re
def SR (p : Prop) (r : Ending) : Prop := ∃ b, r = .returned (.bool b) ∧ (b = true ↔ p)
theorem mem_ops {w : World} {oa : Option Addr} {l : List OpD} (h : OAt w oa l) {k : Nat} {o : OpD} (hk : l[k]? = some o) : ∃ b off ca cc, oa = some ⟨b, off, none⟩ ∧ (w.cell? ⟨b, off + k * 5, none⟩ = some (.int .i64 o.kind) ∧ w.cell? ⟨b, off + k * 5 + 1, none⟩ = some (.int .i64 o.a) ∧ w.cell? ⟨b, off + k * 5 + 2, none⟩ = some (.int .i64 o.b) ∧ w.cell? ⟨b, off + k * 5 + 3, none⟩ = some (.slice ca o.cases.length cc) ∧ w.cell? ⟨b, off + k * 5 + 4, none⟩ = some (.bool o.def_)) ∧ CAt w ca o.cases ∧ o.cases.length ≤ maxLen := h k o hk
end Sh
end Go.Proofs.YtkkgbeaaekmhfaaGreat
namespace Go.Proofs.YtkkgbeaaekmhfaaGreat
open Go.ChangeShapes Go.WideShapes Go.ChangeAt Go.RowKit
namespace Sh
open De Ba Re
def LR (ps : List (List OpD)) (pl dr : List Int) (r : Ending) : Prop := ∃ b, r = .returned (.bool b) ∧ (b = false → Small ps pl dr)
def Held (ps : List (List OpD)) : Prop := ∀ q ∈ ps, ∀ o ∈ q, o.cases.length ≤ 140737488355328
end Sh
end Go.Proofs.YtkkgbeaaekmhfaaGreat
namespace Go.Proofs.YtkkgbeaaekmhfaaGreat
open Go.ChangeShapes Go.WideShapes Go.ChangeAt Go.RowKit
namespace Lo
open Sh De Ba
def AnB (r : Ending) : Prop := ∃ b : Bool, r = .returned (.bool b)
set_option maxRecDepth 100000 in
set_option maxHeartbeats 3200000 in
theorem large14 (T M : Int) (ps : List (List OpD)) (pl dr : List Int) (pa la da : Option Addr) (pc lc dc : Nat) (w : World) (hS : SAt w ⟨T, M, ps, pl, dr⟩ pa la da) :
 Calls Tryz.prog 6 #[.agg #[.int .i64 T, .int .i64 M, .slice pa ps.length pc, .slice la pl.length lc, .slice da dr.length dc]] w fun r w' => AnB r ∧ Below w.heap.size w w' := by
 have S0 := hide (hS.below (below_alloc w (.cells #[.int .i64 T, .int .i64 M, .slice pa ps.length pc, .slice la pl.length lc, .slice da dr.length dc] 25)))
 have B0 := hide (below_alloc w (.cells #[.int .i64 T, .int .i64 M, .slice pa ps.length pc, .slice la pl.length lc, .slice da dr.length dc] 25))
 have X0 := hide (heap_new w (.cells #[.int .i64 T, .int .i64 M, .slice pa ps.length pc, .slice la pl.length lc, .slice da dr.length dc] 25))
 have h1 := hS.h1
 have h2 := hS.h2
 have h3 := hS.h3
 unfold maxLen at h1 h2 h3
 simp only at h1 h2 h3
 clear hS
 by_cases n1 : 20 < ps.length
 ·have g1 : decide (20 < (ps.length : Int)) = true := by simp; omega
  go_enter Tryz.func6, Tryz.ntmps6
  go_wp2_with fail
  go_ret
  exact ⟨⟨true, rfl⟩, B0.out⟩
 have g1 : decide (20 < (ps.length : Int)) = false := by simp; omega
 by_cases n2 : 300 < pl.length
 ·have g2 : decide (300 < (pl.length : Int)) = true := by simp; omega
  go_enter Tryz.func6, Tryz.ntmps6
  go_wp2_with fail
  go_ret
  exact ⟨⟨true, rfl⟩, B0.out⟩
 have g2 : decide (300 < (pl.length : Int)) = false := by simp; omega
 by_cases n3 : 1000 < dr.length
 ·have g3 : decide (1000 < (dr.length : Int)) = true := by simp; omega
  go_enter Tryz.func6, Tryz.ntmps6
  go_wp2_with fail
  go_ret
  exact ⟨⟨true, rfl⟩, B0.out⟩
 have g3 : decide (1000 < (dr.length : Int)) = false := by simp; omega
 go_enter Tryz.func6, Tryz.ntmps6
 go_wp2_with fail
 generalize w.alloc (.cells #[.int .i64 T, .int .i64 M, .slice pa ps.length pc, .slice la pl.length lc, .slice da dr.length dc] 25) = W at S0 B0 X0 ⊢
 obtain ⟨x0, x1, x2, x3, x4⟩ := sc_cells X0.out
 go_loopw [26] (fun i wr => ∃ k : Nat, k ≤ ps.length ∧ i = .int .i64 k ∧ Below W.heap.size W wr) (fun i _ => ps.length - (intOf i).toNat)
 case atStart => exact ⟨0, Nat.zero_le _, rfl, Below.refl _ _⟩
 case round =>
  rename World => w5
  obtain ⟨k, hk, rfl, b5⟩ := hrel
  have B5 := hide b5
  clear b5
  by_cases hlt : k < ps.length
  ·have hlt' : (k : Int) < (ps.length : Int) := by omega
   obtain ⟨q, hq⟩ : ∃ q, ps[k]? = some q := ⟨ps[k], by simp [hlt]⟩
   obtain ⟨b, off, qa, qc, e1, c1, hO, m1⟩ := (S0.out.below B5.out).ps k q hq
   subst e1
   have HO := hide hO
   unfold maxLen at m1
   clear hq hO
   by_cases hl : 100 < q.length
   ·have hl' : decide (100 < (q.length : Int)) = true := by simp; omega
    go_wp2_with fail
    go_ret
    exact ⟨⟨true, rfl⟩, btr B0.out B5.out⟩
   ·have hl' : decide (100 < (q.length : Int)) = false := by simp; omega
    go_wp2_with fail
    go_loopw [35] (fun i wr => ∃ j : Nat, j ≤ q.length ∧ i = .int .i64 j ∧ Below w5.heap.size w5 wr) (fun i _ => q.length - (intOf i).toNat)
    case atStart => exact ⟨0, Nat.zero_le _, rfl, Below.refl _ _⟩
    case round =>
     obtain ⟨j, hj, rfl, b6⟩ := hrel
     have B6 := hide b6
     clear b6
     by_cases hlt2 : j < q.length
     ·have hlt2' : (j : Int) < (q.length : Int) := by omega
      obtain ⟨o, ho⟩ : ∃ o, q[j]? = some o := ⟨q[j], by simp [hlt2]⟩
      obtain ⟨b', off', ca, cc, e2, ⟨y0, y1, y2, y3, y4⟩, hC, hM⟩ := (HO.out.below B6.out) j o ho
      subst e2
      have B7 := hide (btr B6.out (below_alloc wr (.cells #[.int .i64 o.kind, .int .i64 o.a, .int .i64 o.b, .slice ca o.cases.length cc, .bool o.def_] 48)))
      clear ho hC
      by_cases hc : 20 < o.cases.length
      ·have hc' : decide (20 < (o.cases.length : Int)) = true := by simp; omega
       go_wp2_with fail
       go_ret
       exact ⟨⟨true, rfl⟩, btr B0.out (btr B5.out B7.out)⟩
      ·have hc' : decide (20 < (o.cases.length : Int)) = false := by simp; omega
       go_wp2_with fail
       go_roundw
       case rel => exact ⟨j + 1, by omega, by go_num, B7.out⟩
       case measure => simp [intOf]; omega
     ·have hlt2' : ¬ ((j : Int) < (q.length : Int)) := by omega
      go_wp2_with fail
      go_roundw
      case rel => exact ⟨k + 1, by omega, by go_num, btr B5.out B6.out⟩
      case measure => simp [intOf]; omega
  ·have hlt' : ¬ ((k : Int) < (ps.length : Int)) := by omega
   go_wp2_with fail
   go_ret
   exact ⟨⟨false, rfl⟩, btr B0.out B5.out⟩
end Lo
end Go.Proofs.YtkkgbeaaekmhfaaGreat
namespace Go.Proofs.YtkkgbeaaekmhfaaGreat
open Go.ChangeShapes Go.WideShapes Go.ChangeAt Go.RowKit
namespace Lo
open Ba
theorem trace_nil (w : World) : Calls Tryz.prog 15 #[.pointer none] w fun r w' => r = .returned (.slice none 0 0) ∧ w' = w := by
 go_enter Tryz.func15, Tryz.ntmps15
 go_wp2_with fail
 go_ret
 exact ⟨rfl, rfl⟩
theorem len_nil (w : World) : Calls Tryz.prog 16 #[.pointer none] w fun r w' => r = .returned (.int .i64 0) ∧ w' = w := by
 go_enter Tryz.func16, Tryz.ntmps16
 go_wp2_with fail
 go_ret
 exact ⟨rfl, rfl⟩
theorem trace_any (L : Nat) (col : Nat → Nat) (s : Lm) (w : World) (h : LW w col L s) (hl : s.tr.length ≤ 1000000) :
 Calls Tryz.prog 15 #[.pointer (some ⟨L, 0, none⟩)] w fun r w' => ∃ ob d, r = .returned (.slice ob s.tr.length d) ∧ EsAt w' ob s.tr ∧ (s.tr.length ≤ d ∧ ∀ a, ob = some a → w.heap.size ≤ a.block) ∧ Below w.heap.size w w' := by
 obtain ⟨N, C, B, X, FB, pa, pc, bs, Fs, ta, tc, h⟩ := h
 have y13 : w.cell? ⟨L, 13, none⟩ = some (.slice ta s.tr.length tc) := cell_of h.hp 13
 obtain ⟨ob, d, e, hE, -⟩ := own_es h.tr
 cases e
 have CE := hide (clone_es ta s.tr tc w hE hl)
 clear h hE
 go_enter Tryz.func15, Tryz.ntmps15
 go_wp2_with fail
 refine CE.out.mono ?_
 rintro r w1 ⟨ob, d, rfl, e1, n1, b1⟩
 have E1 := hide e1
 have N1 := hide n1
 have B1 := hide b1
 clear e1 n1 b1
 go_wp2_with fail
 go_ret
 exact ⟨ob, d, rfl, E1.out, N1.out, B1.out⟩
theorem len_any (L : Nat) (col : Nat → Nat) (s : Lm) (w : World) (h : LW w col L s) :
 Calls Tryz.prog 16 #[.pointer (some ⟨L, 0, none⟩)] w fun r w' => r = .returned (.int .i64 (s.cr.length : Int)) ∧ w' = w := by
 obtain ⟨N, C, B, X, FB, pa, pc, bs, Fs, ta, tc, h⟩ := h
 have y2 : w.cell? ⟨L, 2, none⟩ = some (.pointer (some ⟨B, 0, none⟩)) := cell_of h.hp 2
 have LE := hide (Cr.len_any B FB s.cr w h.cr)
 clear h
 go_enter Tryz.func16, Tryz.ntmps16
 go_wp2_with fail
 refine LE.out.mono ?_
 rintro r w1 ⟨rfl, rfl⟩
 go_wp2_with fail
 go_ret
 exact ⟨rfl, rfl⟩
def runF (sc : Sh.Sc) : Lm := stepsF sc.pl.length (newS sc)
theorem steps_succ : ∀ (n : Nat) (s : Lm), stepsF (n + 1) s = stepF (stepsF n s)
 | 0, _ => rfl
 | n + 1, s => steps_succ n (stepF s)
theorem step_end {s : Lm} (h : verd s ≠ 0) : stepF s = s := by
 unfold stepF
 rw [if_pos h]
theorem steps_end {s : Lm} (h : verd s ≠ 0) : ∀ n, stepsF n s = s
 | 0 => rfl
 | n + 1 => by rw [steps_succ, steps_end h n, step_end h]
theorem steps_add (m : Nat) : ∀ (n : Nat) (s : Lm), stepsF (n + m) s = stepsF m (stepsF n s)
 | 0, s => by rw [Nat.zero_add]; rfl
 | n + 1, s => by rw [Nat.add_right_comm]; exact steps_add m n (stepF s)
theorem Inv.end_ {sc : Sh.Sc} {n : Nat} {s : Lm} (i : Inv sc n s) (h : verd s = 0) : n < sc.pl.length := by
 have hpl : s.p.length ≠ 0 := fun z => by
  unfold verd at h
  rw [if_pos z] at h
  split at h
  ·omega
  ·split at h <;> omega
 rw [i.p, List.length_drop] at hpl
 omega
theorem Inv.steps {sc : Sh.Sc} (hs : Sh.schk sc = 0) : ∀ n, ∃ k, k ≤ n ∧ Inv sc k (stepsF n (newS sc)) ∧ (verd (stepsF n (newS sc)) = 0 → k = n)
 | 0 => ⟨0, Nat.le_refl _, Inv.new hs, fun _ => rfl⟩
 | n + 1 => by
   obtain ⟨k, hk, i, he⟩ := Inv.steps hs n
   rw [steps_succ]
   by_cases hv : verd (stepsF n (newS sc)) = 0
   ·obtain rfl := he hv
    exact ⟨k + 1, Nat.le_refl _, i.step hs hv, fun _ => rfl⟩
   ·rw [step_end hv]
    exact ⟨k, by omega, i, fun h => absurd h hv⟩
theorem run_over {sc : Sh.Sc} (hs : Sh.schk sc = 0) : verd (runF sc) ≠ 0 := by
 intro h
 obtain ⟨k, -, i, he⟩ := Inv.steps hs sc.pl.length
 have := he h
 have := i.end_ h
 omega
theorem run_at {sc : Sh.Sc} {n : Nat} (hn : n ≤ sc.pl.length) (h : verd (stepsF n (newS sc)) ≠ 0) : runF sc = stepsF n (newS sc) := by
 unfold runF
 obtain ⟨m, e⟩ : ∃ m, sc.pl.length = n + m := ⟨sc.pl.length - n, by omega⟩
 rw [e, steps_add, steps_end h]
set_option maxRecDepth 100000 in
set_option maxHeartbeats 1600000 in
theorem run_no (T M : Int) (ps : List (List OpD)) (pl dr : List Int) (pa la da : Option Addr) (pc lc dc : Nat) (w : World) (hS : Sh.SAt w ⟨T, M, ps, pl, dr⟩ pa la da) (hx : Sh.schk ⟨T, M, ps, pl, dr⟩ ≠ 0) :
 Calls Tryz.prog 8 #[.agg #[.int .i64 T, .int .i64 M, .slice pa ps.length pc, .slice la pl.length lc, .slice da dr.length dc]] w fun r w' => r = .returned (.tuple #[.slice none 0 0, .int .i64 0]) ∧ Below w.heap.size w w' := by
 have NE := hide (new_err T M ps pl dr pa la da pc lc dc (w.alloc (.cells #[.int .i64 T, .int .i64 M, .slice pa ps.length pc, .slice la pl.length lc, .slice da dr.length dc] 25)) (hS.below (below_alloc _ _)) _ rfl hx)
 generalize Sh.schk ⟨T, M, ps, pl, dr⟩ = x at NE hx
 have hx' : (x != 0) = true := by simp [hx]
 clear hS
 go_enter Tryz.func8, Tryz.ntmps8
 go_wp2_with fail
 refine NE.out.mono ?_
 rintro r w1 ⟨rfl, b1⟩
 have B1 := hide (btr (below_alloc w (.cells #[.int .i64 T, .int .i64 M, .slice pa ps.length pc, .slice la pl.length lc, .slice da dr.length dc] 25)) b1)
 clear b1
 go_wp2_with fail
 go_ret2
 exact ⟨rfl, B1.out⟩
set_option maxRecDepth 100000 in
set_option maxHeartbeats 1600000 in
theorem run_yes (T M : Int) (ps : List (List OpD)) (pl dr : List Int) (pa la da : Option Addr) (pc lc dc : Nat) (w : World) (hS : Sh.SAt w ⟨T, M, ps, pl, dr⟩ pa la da) (hx : Sh.schk ⟨T, M, ps, pl, dr⟩ = 0) (R : Lm) (hR : runF ⟨T, M, ps, pl, dr⟩ = R) :
 Calls Tryz.prog 8 #[.agg #[.int .i64 T, .int .i64 M, .slice pa ps.length pc, .slice la pl.length lc, .slice da dr.length dc]] w fun r w' => ∃ ob d, r = .returned (.tuple #[.slice ob R.tr.length d, .int .i64 (verd R)]) ∧ EsAt w' ob R.tr ∧ (R.tr.length ≤ d ∧ ∀ a, ob = some a → w.heap.size ≤ a.block) ∧ Below w.heap.size w w' := by
 have NE := hide (new_yes T M ps pl dr pa la da pc lc dc (w.alloc (.cells #[.int .i64 T, .int .i64 M, .slice pa ps.length pc, .slice la pl.length lc, .slice da dr.length dc] 25)) (hS.below (below_alloc _ _)) hx)
 have HR := hide hR
 have hro := run_over hx
 rw [hR] at hro
 generalize hsc : (⟨T, M, ps, pl, dr⟩ : Sh.Sc) = sc at *
 have hpl : sc.pl = pl := by rw [← hsc]
 clear hS hR
 go_enter Tryz.func8, Tryz.ntmps8
 go_wp2_with fail
 refine NE.out.mono ?_
 rintro r w1 ⟨L, col, rfl, h1, h7, b1⟩
 have H1 := hide h1
 have H7 : Hid (∀ x, x < w.heap.size → col x = 7) := fun x hx => h7 x (Nat.lt_of_lt_of_le hx (below_alloc w (.cells #[.int .i64 T, .int .i64 M, .slice pa ps.length pc, .slice la pl.length lc, .slice da dr.length dc] 25)).size)
 have B1 := hide (btr (below_alloc w (.cells #[.int .i64 T, .int .i64 M, .slice pa ps.length pc, .slice la pl.length lc, .slice da dr.length dc] 25)) b1)
 clear h1 h7 b1 NE
 go_wp2_with fail
 go_loopg [13] sc.pl.length (fun k _ wr => ∃ (n : Nat) (cj : Nat → Nat), k + n = sc.pl.length ∧ LW wr cj L (stepsF n (newS sc)) ∧ Inv sc n (stepsF n (newS sc)) ∧ Tr col cj w1 wr)
 case atStart => exact ⟨0, col, rfl, H1.out, Inv.new hx, Tr.refl _ _⟩
 case round =>
  obtain ⟨n, cj, hkn, hlw, hinv, htr⟩ := hrel
  have HL := hide hlw
  have HI := hide hinv
  have HT := hide htr
  have RA := hide (run_at (sc := sc) (n := n) (by omega))
  have SS := hide (steps_succ n (newS sc))
  clear hlw hinv htr H1
  generalize stepsF n (newS sc) = s at *
  have VE := hide (fun u c (q : LW u c L s) => verdict_any L c s _ u q HI.out.b.bw.cb)
  by_cases hv : verd s = 0
  ·rw [hv] at VE
   go_wp2_with fail
   refine (VE.out _ cj HL.out).mono ?_
   rintro r w2 ⟨rfl, b2⟩
   obtain ⟨c2, h2, t2, -⟩ := HL.out.below b2
   have ST := hide (step_any L c2 sc n s w2 h2 hx HI.out hv)
   have T2 := hide (HT.out.trans t2)
   clear b2 h2 t2
   go_wp2_with fail
   refine ST.out.mono ?_
   rintro r w3 ⟨ob, d, rfl, -, c3, h3, t3⟩
   have H3 : Hid (LW w3 c3 L (stepsF (n + 1) (newS sc))) := by rw [SS.out]; exact h3
   have I3 : Hid (Inv sc (n + 1) (stepsF (n + 1) (newS sc))) := by rw [SS.out]; exact HI.out.step hx hv
   have T3 := hide (T2.out.trans t3)
   have hlt := HI.out.end_ hv
   clear h3 t3 ST
   go_wp2_with fail
   go_roundg (gk - 1)
   case rel => exact ⟨n + 1, c3, by omega, H3.out, I3.out, T3.out⟩
   case measure => omega
  ·have hRs : R = s := by rw [← HR.out]; exact RA.out hv
   subst hRs
   have VE0 := hide (VE.out _ cj HL.out)
   have hvv : (verd R == 0) = false := by simp [hv]
   have hK := kn_le (HI.out.n200 hx)
   have htn := HI.out.b.bw.tn
   generalize hV : verd R = V at *
   go_wp2_with fail
   refine VE0.out.mono ?_
   rintro r w2 ⟨rfl, b2⟩
   obtain ⟨c2, h2, t2, -⟩ := HL.out.below b2
   have TA := hide (trace_any L c2 R w2 h2 (by omega))
   have H2 := hide h2
   have BB : Hid (Below w.heap.size w w2) := by
    have q := HT.out.trans t2
    exact ⟨q.os.trans B1.out.os, q.tape.trans B1.out.tape, q.output.trans B1.out.output, Nat.le_trans B1.out.size q.size, fun x hx => (q.block x (Nat.lt_of_lt_of_le hx B1.out.size) (by rw [H7.out x hx]; omega)).trans (B1.out.block x hx)⟩
   clear b2 h2 t2 VE0
   go_wp2_with fail
   refine TA.out.mono ?_
   rintro r w3 ⟨ob, d, rfl, e3, n3, b3⟩
   obtain ⟨c3, h3, -, -⟩ := H2.out.below b3
   have VE3 := hide (VE.out w3 c3 h3)
   have E3 := hide e3
   have N3 : Hid (R.tr.length ≤ d ∧ ∀ a, ob = some a → w.heap.size ≤ a.block) := ⟨n3.1, fun a e => Nat.le_trans BB.out.size (n3.2 a e)⟩
   have B3 := hide (btr BB.out b3)
   clear e3 n3 b3 h3 TA VE
   go_wp2_with fail
   refine VE3.out.mono ?_
   rintro r w4 ⟨rfl, b4⟩
   have B4 := hide (btr B3.out b4)
   have E4 := hide (E3.out.below b4)
   clear b4 VE3
   go_wp2_with fail
   go_ret2
   exact ⟨ob, d, by (rw [hV]) <;> rfl, E4.out, N3.out, B4.out⟩
end Lo
end Go.Proofs.YtkkgbeaaekmhfaaGreat
namespace Go.Proofs.YtkkgbeaaekmhfaaGreat
open Go.ChangeShapes Go.WideShapes Go.ChangeAt Go.RowKit
namespace Sh
open De Ba Re
theorem drop_flat {α : Type} (f : α → List Nat) (l : List α) (R : List Nat) (j : Nat) : (l.flatMap f ++ R).drop ((l.take j).flatMap f).length = (l.drop j).flatMap f ++ R := by
 have e : l.flatMap f = (l.take j).flatMap f ++ (l.drop j).flatMap f := by rw [← List.flatMap_append, List.take_append_drop]
 rw [e, List.append_assoc, List.drop_left]
theorem drop_of {L A R : List Nat} {z : Nat} (h : L.drop z = A ++ R) : L.drop (z + A.length) = R := by
 rw [← List.drop_drop, h, List.drop_left]
theorem dop_enc {p : Int} {o : OpD} (hc : chk o p = 0) (S : ByteArray) (R : List Nat) (h : nbs S = eop o ++ R) : dop p S = some (o, (eop o).length) := by
 obtain ⟨r, hr, _⟩ := rop_enc hc S R h
 simp [dop, hr, hc]
theorem rops_enc {p : Int} {q : List OpD} (hc : ∀ o ∈ q, chk o p = 0) (s : ByteArray) (z : Nat) (R : List Nat) (h : (nbs s).drop z = q.flatMap eop ++ R) :
 ∀ j, j ≤ q.length → rops p s z j = some (q.take j, z + ((q.take j).flatMap eop).length) := by
 intro j
 induction j with
 | zero => intro _; simp [rops]
 | succ j ih =>
   intro hj
   have hj' : j < q.length := by omega
   have h0 := ih (by omega)
   have hd : dop p (s.extract (z + ((q.take j).flatMap eop).length) s.size) = some (q[j], (eop q[j]).length) := by
    refine dop_enc (hc _ (List.getElem_mem hj')) _ ((q.drop (j + 1)).flatMap eop ++ R) ?_
    rw [nbs_sfx, ← List.drop_drop, h, drop_flat, List.drop_eq_getElem_cons hj', List.flatMap_cons, List.append_assoc]
   have e2 : q.take (j + 1) = q.take j ++ [q[j]] := (List.take_append_getElem hj').symm
   simp only [rops, h0, hd]
   rw [e2, List.flatMap_append, List.length_append]
   simp [Nat.add_assoc]
theorem rprog_enc {p : Int} {q : List OpD} (hc : ∀ o ∈ q, chk o p = 0) (hl : q.length ≤ 32) (s : ByteArray) (z : Nat) (R : List Nat) (h : (nbs s).drop z = epr q ++ R) : rprog p s z = some (q, z + (epr q).length) := by
 have h' : (nbs s).drop z = spl q.length ++ (q.flatMap eop ++ R) := by rw [h, epr, List.append_assoc]
 have ht := Re.tk_spl q.length (q.flatMap eop ++ R) (by omega)
 have hu : up1 32 ((nbs s).drop z) = some (q.length, (spl q.length).length) := by
  rw [h', up1, ht]
  simp only
  rw [if_pos (by omega)]
 have hr := rops_enc hc s (z + (spl q.length).length) R (drop_of h') q.length (Nat.le_refl _)
 rw [List.take_length] at hr
 simp only [rprog, hu, hr]
 simp [epr, Nat.add_assoc]
theorem rprogs_enc {p : Int} {ps : List (List OpD)} (hc : ∀ q ∈ ps, ∀ o ∈ q, chk o p = 0) (hl : ∀ q ∈ ps, q.length ≤ 32) (s : ByteArray) (z : Nat) (R : List Nat) (h : (nbs s).drop z = eps ps ++ R) :
 ∀ j, j ≤ ps.length → rprogs p s z j = some (ps.take j, z + (eps (ps.take j)).length) := by
 intro j
 induction j with
 | zero => intro _; simp [rprogs, eps]
 | succ j ih =>
   intro hj
   have hj' : j < ps.length := by omega
   have h0 := ih (by omega)
   have hd : rprog p s (z + (eps (ps.take j)).length) = some (ps[j], z + (eps (ps.take j)).length + (epr ps[j]).length) := by
    refine rprog_enc (hc _ (List.getElem_mem hj')) (hl _ (List.getElem_mem hj')) _ _ (eps (ps.drop (j + 1)) ++ R) ?_
    rw [← List.drop_drop, h, eps, eps, drop_flat, List.drop_eq_getElem_cons hj', List.flatMap_cons, List.append_assoc]
    rfl
   have e2 : ps.take (j + 1) = ps.take j ++ [ps[j]] := (List.take_append_getElem hj').symm
   have e3 : (eps (ps.take (j + 1))).length = (eps (ps.take j)).length + (epr ps[j]).length := by
    rw [e2, eps, List.flatMap_append, List.length_append]
    simp [eps]
   rw [rprogs_next h0 hd, e3, ← e2, Nat.add_assoc]
theorem tl_most {L : List Nat} {m m' : Int} {x : List Int × Nat} (h : tl L m = .ok x) (hm : m ≤ m') : tl L m' = .ok x := by
 unfold tl at h ⊢
 cases ht : tk L with
 | none => rw [ht] at h; simp at h
 | some y =>
   obtain ⟨n, k⟩ := y
   rw [ht] at h
   simp only at h ⊢
   by_cases hn : m < (n : Int)
   ·rw [if_pos hn] at h; simp at h
   ·rw [if_neg hn] at h
    rw [if_neg (by omega)]
    exact h
theorem mv_back (l : List Int) : mv (-1) (mv 1 l) = l := by
 simp only [mv, List.map_map]
 exact (List.map_congr_left (fun x _ => by simp; omega)).trans (List.map_id l)
theorem mv_there (l : List Int) : mv 1 (mv (-1) l) = l := by
 simp only [mv, List.map_map]
 exact (List.map_congr_left (fun x _ => by show x + -1 + 1 = x; omega)).trans (List.map_id l)
theorem sdec_enc {s : Sc} (hs : schk s = 0) (b : ByteArray) (hb : nbs b = sen s) : sdec b = some s := by
 obtain ⟨T, M, ps, pl, dr⟩ := s
 obtain ⟨t12, m12, h32, h8, h200, h64, h0, har, hap, had⟩ := schk_zero hs
 simp only at t12 m12 h32 h8 h200 h64 h0 har hap had
 have e0 : nbs b = spl T.toNat ++ (spl M.toNat ++ (spl ps.length ++ (eps ps ++ (plist (mv 1 pl) ++ (plist dr ++ []))))) := by
  rw [hb]
  simp [sen, De.pls, List.append_assoc]
 have k0 : (nbs b).drop 0 = _ := e0
 have k1 := drop_of k0
 have k2 := drop_of k1
 have k3 := drop_of k2
 have k4 := drop_of k3
 have k5 := drop_of k4
 rw [Nat.zero_add] at k1 k2 k3 k4 k5
 have u1 : up1 256 (nbs b) = some (T.toNat, (spl T.toNat).length) := by
  rw [e0, up1, Re.tk_spl _ _ (by omega)]
  simp only
  rw [if_pos (by omega)]
 have u2 : up1 1048576 ((nbs b).drop (spl T.toNat).length) = some (M.toNat, (spl M.toNat).length) := by
  rw [k1, up1, Re.tk_spl _ _ (by omega)]
  simp only
  rw [if_pos (by omega)]
 have u3 : up1 8 ((nbs b).drop ((spl T.toNat).length + (spl M.toNat).length)) = some (ps.length, (spl ps.length).length) := by
  rw [k2, up1, Re.tk_spl _ _ (by omega)]
  simp only
  rw [if_pos (by omega)]
 have hh : shead b = some (T.toNat, M.toNat, ps.length, (spl T.toNat).length + (spl M.toNat).length + (spl ps.length).length) := by
  simp only [shead, u1, u2, u3]
 have hp := rprogs_enc (p := (ps.length : Int)) (fun q hq o ho => ari_mem har hq ho) h32 b _ _ k3 ps.length (Nat.le_refl _)
 rw [List.take_length] at hp
 have l1 := tl_most (m' := 200) (tl_plist (mv 1 pl) (plist dr ++ []) (by rw [mv_len]; omega) (mv_okR hap)) (by rw [mv_len]; omega)
 rw [← k4] at l1
 have l2 := tl_most (m' := 64) (tl_plist dr [] (by omega) (ab_okR had (by decide) (by decide))) (by omega)
 rw [← k5] at l2
 have hsz : (spl T.toNat).length + (spl M.toNat).length + (spl ps.length).length + (eps ps).length + (plist (mv 1 pl)).length + (plist dr).length = b.size := by
  rw [← nbs_length, e0]
  simp only [List.length_append, List.length_nil]
  omega
 rw [sdec_end hh hp l1 l2, mv_back, show ((T.toNat : Nat) : Int) = T by omega, show ((M.toNat : Nat) : Int) = M by omega, if_pos ⟨hsz, hs⟩]
theorem tk_cut {L : List Nat} {n k : Nat} (hL : ∀ b ∈ L, b < 256) (h : tk L = some (n, k)) : L = spl n ++ L.drop k := (Re.tk_put hL h).symm
theorem drop_lt {L : List Nat} (hL : ∀ b ∈ L, b < 256) (k : Nat) : ∀ b ∈ L.drop k, b < 256 := fun b hb => hL b (List.mem_of_mem_drop hb)
theorem up1_cut {m : Int} {L : List Nat} {n k : Nat} (hL : ∀ b ∈ L, b < 256) (h : up1 m L = some (n, k)) : L = spl n ++ L.drop k := by
 unfold up1 at h
 cases ht : tk L with
 | none => rw [ht] at h; simp at h
 | some y =>
   obtain ⟨n', k'⟩ := y
   rw [ht] at h
   simp only at h
   split at h
   ·cases h; exact tk_cut hL ht
   ·cases h
theorem dop_cut {p : Int} {S : ByteArray} {o : OpD} {k : Nat} (h : dop p S = some (o, k)) : nbs S = eop o ++ (nbs S).drop k := by
 unfold dop at h
 split at h
 ·rename_i hc
  obtain ⟨h1, h2⟩ := hc
  generalize hr : rop S false = x at h h1 h2
  obtain ⟨o', R, f⟩ := x
  simp only at h h1 h2
  subst h1
  cases h
  have := rop_inv hr
  have e : nbs S = eop o ++ nbs R := this
  rw [e, List.drop_left]
 ·cases h
theorem rops_cut {p : Int} {s : ByteArray} {z : Nat} : ∀ {n : Nat} {l : List OpD} {y : Nat}, rops p s z n = some (l, y) → (nbs s).drop z = l.flatMap eop ++ (nbs s).drop y ∧ l.length = n
 | 0, l, y, h => by
   simp [rops] at h
   obtain ⟨rfl, rfl⟩ := h
   simp
 | n + 1, l, y, h => by
   simp only [rops] at h
   cases hr : rops p s z n with
   | none => rw [hr] at h; cases h
   | some x =>
     obtain ⟨l', y'⟩ := x
     rw [hr] at h
     simp only at h
     cases hd : dop p (s.extract y' s.size) with
     | none => rw [hd] at h; cases h
     | some x =>
       obtain ⟨o, k⟩ := x
       rw [hd] at h
       cases h
       obtain ⟨h1, h2⟩ := rops_cut hr
       have h3 := dop_cut hd
       rw [nbs_sfx, List.drop_drop] at h3
       refine ⟨?_, by simp [h2]⟩
       rw [h1, h3, List.flatMap_append, List.append_assoc]
       simp
theorem rprog_cut {p : Int} {s : ByteArray} {z : Nat} {q : List OpD} {y : Nat} (h : rprog p s z = some (q, y)) : (nbs s).drop z = epr q ++ (nbs s).drop y := by
 unfold rprog at h
 cases hu : up1 32 ((nbs s).drop z) with
 | none => rw [hu] at h; cases h
 | some x =>
   obtain ⟨n, k⟩ := x
   rw [hu] at h
   simp only at h
   obtain ⟨h1, h2⟩ := rops_cut h
   have h3 := up1_cut (drop_lt (nbs_lt s) z) hu
   rw [List.drop_drop, h1] at h3
   rw [h3, epr, h2, List.append_assoc]
theorem rprogs_cut {p : Int} {s : ByteArray} {z : Nat} : ∀ {n : Nat} {l : List (List OpD)} {y : Nat}, rprogs p s z n = some (l, y) → (nbs s).drop z = eps l ++ (nbs s).drop y ∧ l.length = n
 | 0, l, y, h => by
   simp [rprogs] at h
   obtain ⟨rfl, rfl⟩ := h
   simp [eps]
 | n + 1, l, y, h => by
   simp only [rprogs] at h
   cases hr : rprogs p s z n with
   | none => rw [hr] at h; cases h
   | some x =>
     obtain ⟨l', y'⟩ := x
     rw [hr] at h
     simp only at h
     cases hd : rprog p s y' with
     | none => rw [hd] at h; cases h
     | some x =>
       obtain ⟨q, y2⟩ := x
       rw [hd] at h
       cases h
       obtain ⟨h1, h2⟩ := rprogs_cut hr
       have h3 := rprog_cut hd
       refine ⟨?_, by simp [h2]⟩
       rw [h1, h3]
       simp [eps]
theorem tst_cut {L : List Nat} (hL : ∀ b ∈ L, b < 256) : ∀ {i : Nat} {xs : List Int} {o : Nat}, tst L i = some (xs, o) → L = Re.pls xs ++ L.drop o ∧ xs.length = i
 | 0, xs, o, h => by
   simp [tst] at h
   obtain ⟨rfl, rfl⟩ := h
   simp [Re.pls]
 | i + 1, xs, o, h => by
   simp only [tst] at h
   cases hr : tst L i with
   | none => rw [hr] at h; cases h
   | some x =>
     obtain ⟨l', y'⟩ := x
     rw [hr] at h
     simp only at h
     cases hd : tk (L.drop y') with
     | none => rw [hd] at h; cases h
     | some x =>
       obtain ⟨n, k⟩ := x
       rw [hd] at h
       cases h
       obtain ⟨h1, h2⟩ := tst_cut hL hr
       have h3 := tk_cut (drop_lt hL y') hd
       rw [List.drop_drop] at h3
       refine ⟨?_, by simp [h2]⟩
       conv => lhs; rw [h1, h3]
       simp [Re.pls]
theorem tl_cut {L : List Nat} (hL : ∀ b ∈ L, b < 256) {m : Int} {xs : List Int} {k : Nat} (h : tl L m = .ok (xs, k)) : L = plist xs ++ L.drop k := by
 unfold tl at h
 cases ht : tk L with
 | none => rw [ht] at h; simp at h
 | some y =>
   obtain ⟨n, k1⟩ := y
   rw [ht] at h
   simp only at h
   split at h
   ·cases h
   cases hs : tst (L.drop k1) n with
   | none => rw [hs] at h; cases h
   | some x =>
     obtain ⟨xs', o⟩ := x
     rw [hs] at h
     cases h
     obtain ⟨h1, h2⟩ := tst_cut (drop_lt hL k1) hs
     rw [List.drop_drop] at h1
     have h3 := tk_cut hL ht
     conv => lhs; rw [h3, h1]
     rw [plist, h2, List.append_assoc]
theorem sdec_cut {b : ByteArray} {s : Sc} (h : sdec b = some s) : nbs b = sen s ∧ schk s = 0 := by
 unfold sdec at h
 cases hh : shead b with
 | none => rw [hh] at h; cases h
 | some x =>
   obtain ⟨t, m, n, z⟩ := x
   rw [hh] at h
   simp only at h
   cases hp : rprogs n b z n with
   | none => rw [hp] at h; cases h
   | some x =>
     obtain ⟨ps, y⟩ := x
     rw [hp] at h
     simp only at h
     cases hl : tl ((nbs b).drop y) 200 with
     | error e => rw [hl] at h; cases h
     | ok x =>
       obtain ⟨xs, k⟩ := x
       rw [hl] at h
       simp only at h
       cases hd : tl ((nbs b).drop (y + k)) 64 with
       | error e => rw [hd] at h; cases h
       | ok x =>
         obtain ⟨ys, k'⟩ := x
         rw [hd] at h
         simp only at h
         split at h
         ·rename_i hc
          obtain ⟨c1, c2⟩ := hc
          cases h
          refine ⟨?_, c2⟩
          have L := nbs_lt b
          have q4 := tl_cut (drop_lt L (y + k)) hd
          have q3 := tl_cut (drop_lt L y) hl
          obtain ⟨q2, hn⟩ := rprogs_cut hp
          rw [List.drop_drop, c1, ← nbs_length, List.drop_length] at q4
          rw [List.drop_drop, q4] at q3
          rw [q3] at q2
          unfold shead at hh
          cases u1 : up1 256 (nbs b) with
          | none => rw [u1] at hh; cases hh
          | some x =>
            obtain ⟨t', k1⟩ := x
            rw [u1] at hh
            simp only at hh
            cases u2 : up1 1048576 ((nbs b).drop k1) with
            | none => rw [u2] at hh; cases hh
            | some x =>
              obtain ⟨m', k2⟩ := x
              rw [u2] at hh
              simp only at hh
              cases u3 : up1 8 ((nbs b).drop (k1 + k2)) with
              | none => rw [u3] at hh; cases hh
              | some x =>
                obtain ⟨n', k3⟩ := x
                rw [u3] at hh
                cases hh
                have p3 := up1_cut (drop_lt L _) u3
                have p2 := up1_cut (drop_lt L _) u2
                have p1 := up1_cut L u1
                rw [List.drop_drop, q2] at p3
                rw [List.drop_drop, p3] at p2
                rw [p2] at p1
                rw [p1]
                simp [sen, De.pls, mv_there, hn, List.append_assoc]
         ·cases h
end Sh
end Go.Proofs.YtkkgbeaaekmhfaaGreat
namespace Go.Proofs.YtkkgbeaaekmhfaaGreat
open Go.ChangeShapes Go.WideShapes Go.ChangeAt Go.RowKit
namespace Sh
open De Ba Re
def o9 : OpD := ⟨9, 0, 0, [], false⟩
def s9 : Sc := ⟨2, 9, [[o9]], [0, -1], []⟩
theorem s9_chk : schk s9 = 0 := by decide
theorem s9_sen : sen s9 = [2, 9, 1, 1, 9, 2, 1, 0, 0] := by decide
theorem s9_dec : sdec (bs (sen s9)) = some s9 := sdec_enc s9_chk _ (nbs_bs _ (by rw [s9_sen]; decide))
def W9 (w : World) : World := (((w.alloc (.cells #[.int .i64 9, .int .i64 0, .int .i64 0, .slice none 0 0, .bool false] 48)).alloc (.cells #[.slice (some ⟨w.heap.size, 0, none⟩) 1 1] 45)).alloc (.cells #[.int .i64 0, .int .i64 (-1)] 3)).alloc (.cells #[.int .i64 2, .int .i64 9, .slice (some ⟨w.heap.size + 1, 0, none⟩) 1 1, .slice (some ⟨w.heap.size + 1 + 1, 0, none⟩) 2 2, .slice none 0 0] 25)
theorem w9_at (w : World) : SAt (W9 w) s9 (some ⟨w.heap.size + 1, 0, none⟩) (some ⟨w.heap.size + 1 + 1, 0, none⟩) none ∧ Below w.heap.size w (W9 w) ∧ (W9 w).heap[w.heap.size + 1 + 1 + 1]? = some (.cells #[.int .i64 2, .int .i64 9, .slice (some ⟨w.heap.size + 1, 0, none⟩) 1 1, .slice (some ⟨w.heap.size + 1 + 1, 0, none⟩) 2 2, .slice none 0 0] 25 (0, 0)) := by
 unfold W9
 have b1 := below_alloc w (.cells #[.int .i64 9, .int .i64 0, .int .i64 0, .slice none 0 0, .bool false] 48)
 have h1 := heap_new w (.cells #[.int .i64 9, .int .i64 0, .int .i64 0, .slice none 0 0, .bool false] 48)
 have z1 : (w.alloc (.cells #[.int .i64 9, .int .i64 0, .int .i64 0, .slice none 0 0, .bool false] 48)).heap.size = w.heap.size + 1 := World.size_alloc ..
 generalize w.alloc (.cells #[.int .i64 9, .int .i64 0, .int .i64 0, .slice none 0 0, .bool false] 48) = w1 at *
 have b2 := below_alloc w1 (.cells #[.slice (some ⟨w.heap.size, 0, none⟩) 1 1] 45)
 have h2 := heap_new w1 (.cells #[.slice (some ⟨w.heap.size, 0, none⟩) 1 1] 45)
 have z2 : (w1.alloc (.cells #[.slice (some ⟨w.heap.size, 0, none⟩) 1 1] 45)).heap.size = w1.heap.size + 1 := World.size_alloc ..
 generalize w1.alloc (.cells #[.slice (some ⟨w.heap.size, 0, none⟩) 1 1] 45) = w2 at *
 have b3 := below_alloc w2 (.cells #[.int .i64 0, .int .i64 (-1)] 3)
 have h3 := heap_new w2 (.cells #[.int .i64 0, .int .i64 (-1)] 3)
 have z3 : (w2.alloc (.cells #[.int .i64 0, .int .i64 (-1)] 3)).heap.size = w2.heap.size + 1 := World.size_alloc ..
 generalize w2.alloc (.cells #[.int .i64 0, .int .i64 (-1)] 3) = w3 at *
 have b4 := below_alloc w3 (.cells #[.int .i64 2, .int .i64 9, .slice (some ⟨w.heap.size + 1, 0, none⟩) 1 1, .slice (some ⟨w.heap.size + 1 + 1, 0, none⟩) 2 2, .slice none 0 0] 25)
 have h4 := heap_new w3 (.cells #[.int .i64 2, .int .i64 9, .slice (some ⟨w.heap.size + 1, 0, none⟩) 1 1, .slice (some ⟨w.heap.size + 1 + 1, 0, none⟩) 2 2, .slice none 0 0] 25)
 generalize w3.alloc (.cells #[.int .i64 2, .int .i64 9, .slice (some ⟨w.heap.size + 1, 0, none⟩) 1 1, .slice (some ⟨w.heap.size + 1 + 1, 0, none⟩) 2 2, .slice none 0 0] 25) = w4 at *
 rw [z3, z2, z1] at h4
 rw [z2, z1] at h3
 rw [z1] at h2
 have g1 := heap_below (heap_below (heap_below h1 b2) b3) b4
 have g2 := heap_below (heap_below h2 b3) b4
 have g3 := heap_below h3 b4
 refine ⟨⟨?_, ?_, fun k hk => absurd hk (Nat.not_lt_zero _), by decide, by decide, by decide⟩, btr (btr (btr b1 b2) b3) b4, h4⟩
 ·intro k q hq
  have e : k = 0 ∧ q = [o9] := by
   match k, hq with
   | 0, hq => exact ⟨rfl, by simpa [s9] using hq.symm⟩
   | k + 1, hq => simp [s9] at hq
  obtain ⟨rfl, rfl⟩ := e
  refine ⟨_, _, _, 1, rfl, cell_of g2 0, ?_, by decide⟩
  intro j o ho
  have e : j = 0 ∧ o = o9 := by
   match j, ho with
   | 0, ho => exact ⟨rfl, by simpa using ho.symm⟩
   | j + 1, ho => simp at ho
  obtain ⟨rfl, rfl⟩ := e
  exact ⟨_, _, none, 0, rfl, ⟨cell_of g1 0, cell_of g1 1, cell_of g1 2, cell_of g1 3, cell_of g1 4⟩, CAt.nil _ _, by decide⟩
 ·intro k hk
  have hk' : k < 2 := hk
  match k, hk' with
  | 0, _ => exact ⟨_, _, rfl, cell_of g3 0⟩
  | 1, _ => exact ⟨_, _, rfl, cell_of g3 1⟩
end Sh
end Go.Proofs.YtkkgbeaaekmhfaaGreat
namespace Go.Proofs.YtkkgbeaaekmhfaaGreat
open Go.ChangeShapes Go.WideShapes Go.ChangeAt Go.RowKit
namespace Sh
open De Ba Re
section
variable {H : Type} {enc : TypeId × Value → H} {w : World}
def WL (t : TypeId) (d : DataW H) : Prop := ∀ m ∈ d.weights Tryz.prog t, m ≤ reachBytes
theorem mem_all {e : TypeId} : ∀ {l : List (DataW H)} {d : DataW H}, d ∈ l → ∀ n ∈ d.weights Tryz.prog e, n ∈ DataW.weightsAll Tryz.prog e l
 | d' :: r, d, hd, n, hn => by
   simp only [DataW.weightsAll, List.mem_append]
   rcases List.mem_cons.1 hd with rfl | h
   ·exact Or.inl hn
   ·exact Or.inr (mem_all h n hn)
theorem WL.field {t : TypeId} {fs : Array Field} {xs : List (DataW H × List MemPlace)} {j : Nat} {f : Field} {y : DataW H × List MemPlace} (hu : Tryz.prog.underlying t = some (.struct fs)) (hf : fs[j]? = some f) (hx : xs[j]? = some y) (hz : WL t (DataW.agg (xs.map (·.1)))) : WL f.type y.1 := by
 intro m hm
 apply hz
 simp only [DataW.weights, hu]
 refine DataW.weights_mem_each (j := j) ?_ ?_ m hm
 ·rw [List.getElem?_map, Array.getElem?_toList, hf]
  rfl
 ·rw [List.getElem?_map, hx]
  rfl
theorem WL.elem {t e : TypeId} {l sp : List (DataW H)} (hu : Tryz.prog.underlying t = some (.slice e)) (hz : WL t (DataW.slice l sp)) : (l.length + sp.length) * Tryz.prog.bytesOf e ≤ reachBytes ∧ ∀ d ∈ l, WL e d := by
 unfold WL at hz
 simp only [DataW.weights, hu] at hz
 exact ⟨hz _ (List.mem_cons_self ..), fun d hd m hm => hz _ (List.mem_cons_of_mem _ (List.mem_append_left _ (mem_all hd m hm)))⟩
theorem WL.elemAt {t e : TypeId} {len : Nat} {D : Nat → DataW H} {sp : List (DataW H)} (hu : Tryz.prog.underlying t = some (.slice e)) (hz : WL t (DataW.slice ((List.range len).map D) sp)) (i : Nat) (hi : i < len) : WL e (D i) :=
 (hz.elem hu).2 _ (List.mem_map.2 ⟨i, List.mem_range.2 hi, rfl⟩)
theorem bytes_case : Tryz.prog.bytesOf 92 = 24 := by kernel_rfl
theorem cells_pr : Tryz.prog.cellsOf 45 = 1 := by kernel_rfl
theorem cells_prs : Tryz.prog.cellsOf 22 = 1 := by kernel_rfl
theorem cells_ints : Tryz.prog.cellsOf 23 = 1 := by kernel_rfl
theorem cells_sc : Tryz.prog.cellsOf 25 = 5 := by kernel_rfl
theorem cases_held {n : Nat} {v : Value} {x : DataW H × List MemPlace} (h : DataW.trod enc Tryz.prog w 0 (fun _ => true) true n 46 [v] = some x) (hz : WL 46 x.1) : ∃ (l : List Cs) (oa : Option Addr) (c : Nat), v = .slice oa l.length c ∧ CAt w oa l ∧ l.length ≤ maxLen ∧ l.length ≤ 140737488355328 := by
 obtain ⟨l, oa, c, rfl, hA, hm⟩ := cases_open h
 refine ⟨l, oa, c, rfl, hA, hm, ?_⟩
 rcases Go.Deep.open_slice Tryz.underlying46 h with ⟨hcs, _⟩ | ⟨a, len, cap, m, n', D, Pl, hcs, _, hl, _, hmm, hx, _⟩
 ·simp at hcs
  have := hcs.2.1
  simp [this]
 ·simp at hcs
  obtain ⟨_, e, _⟩ := hcs
  rw [hx] at hz
  have := (WL.elem Tryz.underlying46 hz).1
  rw [bytes_case] at this
  simp [reachBytes] at this
  omega
theorem op_held {n : Nat} {cs : List Value} {x : DataW H × List MemPlace} (h : DataW.trod enc Tryz.prog w 0 (fun _ => true) true n 48 cs = some x) (hz : WL 48 x.1) :
 ∃ (o : OpD) (oa : Option Addr) (c : Nat), (cs[0]? = some (.int .i64 o.kind) ∧ cs[1]? = some (.int .i64 o.a) ∧ cs[2]? = some (.int .i64 o.b) ∧ cs[3]? = some (.slice oa o.cases.length c) ∧ cs[4]? = some (.bool o.def_)) ∧ CAt w oa o.cases ∧ o.cases.length ≤ maxLen ∧ o.cases.length ≤ 140737488355328 := by
 obtain ⟨fs, hu, hsz, field5_0, field5_1, field5_2, field5_3, field5_4⟩ := fields5
 obtain ⟨xs, k, _, hxx, hcl, hxl, hff⟩ := DataW.trod_struct hu h
 rw [hxx] at hz
 rw [hsz] at hxl
 rw [cells_op] at hcl
 obtain ⟨f0, g0, o0, t0⟩ := field5_0
 have h0 := hff 0 f0 g0
 rw [o0, t0, De.cells_int] at h0
 obtain ⟨f1, g1, o1, t1⟩ := field5_1
 have h1 := hff 1 f1 g1
 rw [o1, t1, De.cells_int] at h1
 obtain ⟨f2, g2, o2, t2⟩ := field5_2
 have h2 := hff 2 f2 g2
 rw [o2, t2, De.cells_int] at h2
 obtain ⟨f3, g3, o3, t3⟩ := field5_3
 have h3 := hff 3 f3 g3
 rw [o3, t3, cells_cases] at h3
 obtain ⟨f4, g4, o4, t4⟩ := field5_4
 have h4 := hff 4 f4 g4
 rw [o4, t4, cells_bool] at h4
 have x3 : xs[3]? = some xs[3] := List.getElem?_eq_getElem (by omega)
 have z3 := WL.field hu g3 x3 hz
 rw [t3] at z3
 rw [x3] at h3
 rw [List.getElem?_eq_getElem (by omega)] at h0 h1 h2 h4
 obtain ⟨i0, e0, _⟩ := DataW.trod_int Tryz.underlying3 h0
 obtain ⟨i1, e1, _⟩ := DataW.trod_int Tryz.underlying3 h1
 obtain ⟨i2, e2, _⟩ := DataW.trod_int Tryz.underlying3 h2
 obtain ⟨i4, e4, _⟩ := DataW.trod_bool Tryz.underlying4 h4
 have hq : ∃ z, (cs.drop 3).take 1 = [z] := by
  have hl : ((cs.drop 3).take 1).length = 1 := by simp; omega
  match hq : (cs.drop 3).take 1, hl with
  | [z], _ => exact ⟨z, rfl⟩
 obtain ⟨z, e3⟩ := hq
 rw [e3] at h3
 obtain ⟨l, oa, c, rfl, hA, hm, hb⟩ := cases_held h3 z3
 exact ⟨⟨i0, i1, i2, l, i4⟩, oa, c, ⟨De.one_of e0, De.one_of e1, De.one_of e2, De.one_of e3, De.one_of e4⟩, hA, hm, hb⟩
theorem ops_held {n : Nat} {v : Value} {x : DataW H × List MemPlace} (h : DataW.trod enc Tryz.prog w 0 (fun _ => true) true n 45 [v] = some x) (hz : WL 45 x.1) : ∃ (l : List OpD) (oa : Option Addr) (c : Nat), v = .slice oa l.length c ∧ OAt w oa l ∧ l.length ≤ maxLen ∧ ∀ o ∈ l, o.cases.length ≤ 140737488355328 := by
 rcases Go.Deep.open_slice Tryz.underlying45 h with ⟨hcs, _⟩ | ⟨a, len, cap, m, n', D, Pl, hcs, _, hl, hm, hmm, hx, hel⟩
 ·simp at hcs
  subst hcs
  exact ⟨[], none, 0, rfl, OAt.nil _ _, Nat.zero_le _, fun o ho => by cases ho⟩
 ·simp at hcs
  subst hcs
  have hmc : m = cap := by simpa using hmm
  subst hmc
  rw [hx] at hz
  have key : ∀ i, i < len → ∃ o : OpD, (∃ ca cc, (w.cell? ((a.add (i * 5)).add 0) = some (.int .i64 o.kind) ∧ w.cell? ((a.add (i * 5)).add 1) = some (.int .i64 o.a) ∧ w.cell? ((a.add (i * 5)).add 2) = some (.int .i64 o.b) ∧ w.cell? ((a.add (i * 5)).add 3) = some (.slice ca o.cases.length cc) ∧ w.cell? ((a.add (i * 5)).add 4) = some (.bool o.def_)) ∧ CAt w ca o.cases) ∧ o.cases.length ≤ maxLen ∧ o.cases.length ≤ 140737488355328 := by
   intro i hi
   obtain ⟨cs', h1, h2⟩ := hel i (by omega)
   rw [cells_op] at h1
   obtain ⟨_, _, hcell⟩ := World.cells?_some h1
   obtain ⟨o, ca, cc, ⟨q0, q1, q2, q3, q4⟩, hC, hM, hB⟩ := op_held h2 (WL.elemAt Tryz.underlying45 hz i hi)
   exact ⟨o, ⟨ca, cc, ⟨(hcell 0 (by decide)).trans q0, (hcell 1 (by decide)).trans q1, (hcell 2 (by decide)).trans q2, (hcell 3 (by decide)).trans q3, (hcell 4 (by decide)).trans q4⟩, hC⟩, hM, hB⟩
  have fam : ∃ f : Nat → OpD, ∀ i, i < len → (∃ ca cc, (w.cell? ((a.add (i * 5)).add 0) = some (.int .i64 (f i).kind) ∧ w.cell? ((a.add (i * 5)).add 1) = some (.int .i64 (f i).a) ∧ w.cell? ((a.add (i * 5)).add 2) = some (.int .i64 (f i).b) ∧ w.cell? ((a.add (i * 5)).add 3) = some (.slice ca (f i).cases.length cc) ∧ w.cell? ((a.add (i * 5)).add 4) = some (.bool (f i).def_)) ∧ CAt w ca (f i).cases) ∧ (f i).cases.length ≤ maxLen ∧ (f i).cases.length ≤ 140737488355328 := by
   refine ⟨fun i => if hi : i < len then Classical.choose (key i hi) else ⟨0, 0, 0, [], false⟩, fun i hi => ?_⟩
   simp only [dif_pos hi]
   exact Classical.choose_spec (key i hi)
  obtain ⟨f, hf⟩ := fam
  have hlen : ((List.range len).map f).length = len := by simp
  refine ⟨(List.range len).map f, some a, m, by rw [hlen], ?_, by rw [hlen]; omega, ?_⟩
  ·intro k o hk
   have hk2 : k < len := by
    have := (List.getElem?_eq_some_iff.1 hk).1
    simpa using this
   have hc : o = f k := by
    simp [hk2] at hk
    exact hk.symm
   subst hc
   obtain ⟨⟨ca, cc, ⟨q0, q1, q2, q3, q4⟩, hC⟩, hM, _⟩ := hf k hk2
   have hspot : a.spot = none := by
    obtain ⟨⟨_, _, ⟨p0, _⟩, _⟩, _⟩ := hf 0 (by omega)
    have := World.cell?_spot p0
    simpa [Addr.add] using this
   obtain ⟨b, off, spot⟩ := a
   simp at hspot
   subst hspot
   rw [Addr.add_lit, Addr.add_lit] at q0 q1 q2 q3 q4
   exact ⟨b, off, ca, cc, rfl, ⟨q0, q1, q2, q3, q4⟩, hC, hM⟩
  ·intro o ho
   obtain ⟨i, hi, rfl⟩ := List.mem_map.1 ho
   exact (hf i (List.mem_range.1 hi)).2.2
theorem progs_held {n : Nat} {v : Value} {x : DataW H × List MemPlace} (h : DataW.trod enc Tryz.prog w 0 (fun _ => true) true n 22 [v] = some x) (hz : WL 22 x.1) : ∃ (l : List (List OpD)) (oa : Option Addr) (c : Nat), v = .slice oa l.length c ∧ PAt w oa l ∧ l.length ≤ maxLen ∧ Held l := by
 rcases Go.Deep.open_slice Tryz.underlying22 h with ⟨hcs, _⟩ | ⟨a, len, cap, m, n', D, Pl, hcs, _, hl, hm, hmm, hx, hel⟩
 ·simp at hcs
  subst hcs
  exact ⟨[], none, 0, rfl, PAt.nil _ _, Nat.zero_le _, fun o ho => by cases ho⟩
 ·simp at hcs
  subst hcs
  have hmc : m = cap := by simpa using hmm
  subst hmc
  rw [hx] at hz
  have key : ∀ i, i < len → ∃ q : List OpD, (∃ ca cc, w.cell? ((a.add (i * 1)).add 0) = some (.slice ca q.length cc) ∧ OAt w ca q) ∧ q.length ≤ maxLen ∧ ∀ o ∈ q, o.cases.length ≤ 140737488355328 := by
   intro i hi
   obtain ⟨cs', h1, h2⟩ := hel i (by omega)
   rw [cells_pr] at h1
   obtain ⟨_, hlc, hcell⟩ := World.cells?_some h1
   match cs', hlc, h2, hcell with
   | [z], _, h2, hcell =>
     obtain ⟨q, ca, cc, rfl, hO, hM, hB⟩ := ops_held h2 (WL.elemAt Tryz.underlying22 hz i hi)
     exact ⟨q, ⟨ca, cc, (hcell 0 (by decide)).trans rfl, hO⟩, hM, hB⟩
  have fam : ∃ f : Nat → List OpD, ∀ i, i < len → (∃ ca cc, w.cell? ((a.add (i * 1)).add 0) = some (.slice ca (f i).length cc) ∧ OAt w ca (f i)) ∧ (f i).length ≤ maxLen ∧ ∀ o ∈ f i, o.cases.length ≤ 140737488355328 := by
   refine ⟨fun i => if hi : i < len then Classical.choose (key i hi) else [], fun i hi => ?_⟩
   simp only [dif_pos hi]
   exact Classical.choose_spec (key i hi)
  obtain ⟨f, hf⟩ := fam
  have hlen : ((List.range len).map f).length = len := by simp
  refine ⟨(List.range len).map f, some a, m, by rw [hlen], ?_, by rw [hlen]; omega, ?_⟩
  ·intro k o hk
   have hk2 : k < len := by
    have := (List.getElem?_eq_some_iff.1 hk).1
    simpa using this
   have hc : o = f k := by
    simp [hk2] at hk
    exact hk.symm
   subst hc
   obtain ⟨⟨ca, cc, q0, hC⟩, hM, _⟩ := hf k hk2
   have hspot : a.spot = none := by
    obtain ⟨⟨_, _, p0, _⟩, _⟩ := hf 0 (by omega)
    have := World.cell?_spot p0
    simpa [Addr.add] using this
   obtain ⟨b, off, spot⟩ := a
   simp at hspot
   subst hspot
   rw [Addr.add_lit, Addr.add_lit, Nat.mul_one, Nat.add_zero] at q0
   exact ⟨b, off, ca, cc, rfl, q0, hC, hM⟩
  ·intro q hq
   obtain ⟨i, hi, rfl⟩ := List.mem_map.1 hq
   exact (hf i (List.mem_range.1 hi)).2.2
theorem ints_held {n : Nat} {v : Value} {x : DataW H × List MemPlace} (h : DataW.trod enc Tryz.prog w 0 (fun _ => true) true n 23 [v] = some x) : ∃ (l : List Int) (oa : Option Addr) (c : Nat), v = .slice oa l.length c ∧ At w oa l ∧ l.length ≤ maxLen := by
 have hv : ∃ oa len cap, v = .slice oa len cap := by
  rcases Go.Deep.open_slice Tryz.underlying23 h with ⟨hcs, _⟩ | ⟨a, len, cap, m, n', D, Pl, hcs, _⟩
  ·simp at hcs; exact ⟨_, _, _, hcs⟩
  ·simp at hcs; exact ⟨_, _, _, hcs⟩
 obtain ⟨oa, len, cap, rfl⟩ := hv
 obtain ⟨l, rfl, hA, h1, h2⟩ := ints_open h
 exact ⟨l, oa, cap, rfl, hA, by omega⟩
theorem fieldsS : ∃ fs : Array Field, Tryz.prog.underlying 25 = some (.struct fs) ∧ fs.size = 5 ∧ (∃ f, fs[0]? = some f ∧ f.offset = 0 ∧ f.type = 3) ∧ (∃ f, fs[1]? = some f ∧ f.offset = 1 ∧ f.type = 3) ∧ (∃ f, fs[2]? = some f ∧ f.offset = 2 ∧ f.type = 22) ∧ (∃ f, fs[3]? = some f ∧ f.offset = 3 ∧ f.type = 23) ∧ (∃ f, fs[4]? = some f ∧ f.offset = 4 ∧ f.type = 23) :=
 ⟨_, Tryz.underlying25, rfl, ⟨_, rfl, rfl, rfl⟩, ⟨_, rfl, rfl, rfl⟩, ⟨_, rfl, rfl, rfl⟩, ⟨_, rfl, rfl, rfl⟩, ⟨_, rfl, rfl, rfl⟩⟩
theorem one_in {cs : List Value} (hcl : cs.length = 5) (j : Nat) (hj : j < 5) : ∃ z, (cs.drop j).take 1 = [z] := by
 have hl : ((cs.drop j).take 1).length = 1 := by simp; omega
 match hq : (cs.drop j).take 1, hl with
 | [z], _ => exact ⟨z, rfl⟩
set_option maxRecDepth 100000 in
theorem script_open {n : Nat} {v : Value} {x : DataW H × List MemPlace} (h : DataW.trod enc Tryz.prog w 0 (fun _ => true) true n 25 v.cells.toList = some x) (hz : WL 25 x.1) :
 ∃ (T M : Int) (ps : List (List OpD)) (pl dr : List Int) (pa la da : Option Addr) (pc lc dc : Nat), v = .agg #[.int .i64 T, .int .i64 M, .slice pa ps.length pc, .slice la pl.length lc, .slice da dr.length dc] ∧ SAt w ⟨T, M, ps, pl, dr⟩ pa la da ∧ Held ps := by
 obtain ⟨fs, hu, hsz, field5_0, field5_1, field5_2, field5_3, field5_4⟩ := fieldsS
 obtain ⟨xs, k, _, hxx, hcl, hxl, hff⟩ := DataW.trod_struct hu h
 rw [hxx] at hz
 rw [hsz] at hxl
 rw [cells_sc] at hcl
 obtain ⟨f0, g0, o0, t0⟩ := field5_0
 have h0 := hff 0 f0 g0
 rw [o0, t0, De.cells_int] at h0
 obtain ⟨f1, g1, o1, t1⟩ := field5_1
 have h1 := hff 1 f1 g1
 rw [o1, t1, De.cells_int] at h1
 obtain ⟨f2, g2, o2, t2⟩ := field5_2
 have h2 := hff 2 f2 g2
 rw [o2, t2, cells_prs] at h2
 obtain ⟨f3, g3, o3, t3⟩ := field5_3
 have h3 := hff 3 f3 g3
 rw [o3, t3, cells_ints] at h3
 obtain ⟨f4, g4, o4, t4⟩ := field5_4
 have h4 := hff 4 f4 g4
 rw [o4, t4, cells_ints] at h4
 have x2 : xs[2]? = some xs[2] := List.getElem?_eq_getElem (by omega)
 have z2 := WL.field hu g2 x2 hz
 rw [t2] at z2
 rw [x2] at h2
 rw [List.getElem?_eq_getElem (by omega)] at h0 h1 h3 h4
 obtain ⟨T, e0, _⟩ := DataW.trod_int Tryz.underlying3 h0
 obtain ⟨M, e1, _⟩ := DataW.trod_int Tryz.underlying3 h1
 obtain ⟨y2, e2⟩ := one_in hcl 2 (by decide)
 obtain ⟨y3, e3⟩ := one_in hcl 3 (by decide)
 obtain ⟨y4, e4⟩ := one_in hcl 4 (by decide)
 rw [e2] at h2
 rw [e3] at h3
 rw [e4] at h4
 obtain ⟨ps, pa, pc, rfl, hP, m1, hH⟩ := progs_held h2 z2
 obtain ⟨pl, la, lc, rfl, hL, m2⟩ := ints_held h3
 obtain ⟨dr, da, dc, rfl, hD, m3⟩ := ints_held h4
 refine ⟨T, M, ps, pl, dr, pa, la, da, pc, lc, dc, ?_, ⟨hP, hL, hD, m1, m2, m3⟩, hH⟩
 have hc : v.cells = #[.int .i64 T, .int .i64 M, .slice pa ps.length pc, .slice la pl.length lc, .slice da dr.length dc] := by
  apply Array.toList_inj.1
  have q0 := De.one_of e0
  have q1 := De.one_of e1
  have q2 := De.one_of e2
  have q3 := De.one_of e3
  have q4 := De.one_of e4
  generalize v.cells.toList = L at *
  match L, hcl with
  | [y0, y1, y2, y3, y4], _ =>
    simp at q0 q1 q2 q3 q4
    simp [q0, q1, q2, q3, q4]
 cases v with
 | agg cs => rw [← hc]; rfl
 | _ => have := congrArg Array.size hc; simp [Value.cells] at this
end
end Sh
end Go.Proofs.YtkkgbeaaekmhfaaGreat
