import Derived.Test.YtddchcekljndmaaGreatZjLr13
import Derived.Deep.LoopGhost
import Derived.Laws.StructEq
import Derived.ChangeKeysEq
/- A new loom, over this seat's program. -/
namespace Go.Proofs.YtddchcekljndmaaGreat
open Go.ChangeShapes Go.WideShapes Go.ChangeAt Go.RowKit
namespace Lo
open Ba

theorem field_ps (u : World) (a b d e : Value) (x : Option Addr) (y z : Nat) : (Instr.field 25 (.agg #[a, b, .slice x y z, d, e]) 2).run Tryz.prog u = .ok (.slice x y z) u := by
  simp [Instr.field, run_underlying Tryz.underlying25, asAgg, part, isAgg, run_underlying Tryz.underlying22]
theorem info_pp : (Tryz.prog.info? 150).map (fun i => (i.zero, i.size, i.bytes)) = some (some (.pointer none), 1, 8) := by kernel_rfl
theorem made8 : madeCells (Value.cells (.pointer none)) 8 = #[.pointer none, .pointer none, .pointer none, .pointer none, .pointer none, .pointer none, .pointer none, .pointer none] := by
  apply Array.toList_inj.1
  rw [madeCells, Array.toList_map, Array.toList_range]
  rfl
theorem mk8 (u : World) : (Instr.makeSlice 71 (.int .i64 8) (.int .i64 8)).run Tryz.prog u = .ok (.slice (some ⟨u.heap.size, 0, none⟩) 8 8) (u.alloc (.cells #[.pointer none, .pointer none, .pointer none, .pointer none, .pointer none, .pointer none, .pointer none, .pointer none] 150)) := by
  obtain ⟨i0, hi, hz0, hz1, hz2⟩ := info_parts info_pp
  have := run_make (P := Tryz.prog) u 71 150 i0 (.pointer none) Tryz.underlying71 hi hz0 .i64 .i64 8 8 (by omega) (Int.le_refl _) (by rw [hz2]; omega) (by omega)
  rw [hz1] at this
  rw [← made8]
  exact this
set_option maxRecDepth 100000 in
set_option maxHeartbeats 1600000 in
theorem new_err (T M : Int) (ps : List (List OpD)) (pl dr : List Int) (pa la da : Option Addr) (pc lc dc : Nat) (w : World) (hS : Sh.SAt w ⟨T, M, ps, pl, dr⟩ pa la da) (x : Int) (hx : Sh.schk ⟨T, M, ps, pl, dr⟩ = x) (h0 : x ≠ 0) :
    Calls Tryz.prog 10 #[.agg #[.int .i64 T, .int .i64 M, .slice pa ps.length pc, .slice la pl.length lc, .slice da dr.length dc]] w fun r w' => r = .returned (.tuple #[.pointer none, .int .i64 x]) ∧ Below w.heap.size w w' := by
  have CK := hide (Sh.scheck_any T M ps pl dr pa la da pc lc dc (w.alloc (.cells #[.int .i64 T, .int .i64 M, .slice pa ps.length pc, .slice la pl.length lc, .slice da dr.length dc] 25)) (hS.below (below_alloc _ _)))
  rw [hx] at CK
  have h0' : (x != 0) = true := by simp [h0]
  clear hS
  go_enter Tryz.func10, Tryz.ntmps10
  go_wp2_with fail
  refine CK.out.mono ?_
  rintro r w1 ⟨rfl, b1⟩
  have B1 := hide (btr (below_alloc w (.cells #[.int .i64 T, .int .i64 M, .slice pa ps.length pc, .slice la pl.length lc, .slice da dr.length dc] 25)) b1)
  clear b1
  go_wp2_with fail
  go_ret2
  exact ⟨rfl, B1.out⟩
theorem pf_keep {w w' : World} {N : Nat} {arr : Array Value} {ps : List (List OpD)} (h : Sh.PF w N arr ps) (hk : ∀ x, N ≤ x → x < w.heap.size → w'.heap[x]? = w.heap[x]?) : Sh.PF w' N arr ps := by
  intro t q ht
  obtain ⟨g, c, h1, h2, h3, h4⟩ := h t q ht
  refine ⟨g, c, h1, fun j o hj => ?_, h3, h4⟩
  obtain ⟨ca, cc, ⟨k0, k1, k2, k3, k4⟩, hC, hN, hl⟩ := h2 j o hj
  have e := hk g h3 (World.block_lt_of_cell? w _ k0)
  refine ⟨ca, cc, ⟨?_, ?_, ?_, ?_, ?_⟩, cat_keep hC (fun a ea hla => hk _ (by have := hN a ea; omega) hla), hN, hl⟩
  · rw [← k0]; simp only [World.cell?, e]
  · rw [← k1]; simp only [World.cell?, e]
  · rw [← k2]; simp only [World.cell?, e]
  · rw [← k3]; simp only [World.cell?, e]
  · rw [← k4]; simp only [World.cell?, e]
/-- the cells of a loom that has no cursor yet -/
def lz (G n B X : Nat) : Array Value := #[.slice (some ⟨G, 0, none⟩) n n, .pointer none, .pointer (some ⟨B, 0, none⟩), .slice (some ⟨X, 0, none⟩) 8 8, .int .i64 0, .int .i64 0, .int .i64 0, .int .i64 0, .int .i64 0, .int .i64 0, .int .i64 0, .int .i64 0, .int .i64 0, .slice none 0 0, .bool false]
structure NF (w wF : World) (L G B X : Nat) (ps : List (List OpD)) : Prop where
  hl : wF.heap[L]? = some (.cells (lz G ps.length B X) 74 (0, 0))
  hx : wF.heap[X]? = some (.cells #[.pointer none, .pointer none, .pointer none, .pointer none, .pointer none, .pointer none, .pointer none, .pointer none] 150 (0, 0))
  hb : Cr.PC wF B (fun k => k = B) []
  st : ∃ lo hi, (∀ w', (∀ x, lo ≤ x → x < hi → w'.heap[x]? = wF.heap[x]?) → Sh.PAt w' (some ⟨G, 0, none⟩) ps) ∧ (w.heap.size ≤ lo ∧ hi ≤ L) ∧ (B < lo ∨ hi ≤ B) ∧ (X < lo ∨ hi ≤ X)
  ne : B ≠ X ∧ B < L ∧ X < L
  ge : w.heap.size ≤ B ∧ w.heap.size ≤ X
  bl : Below w.heap.size w wF
theorem nf_static {u0 uC wF : World} {G : Nat} {arr : Array Value} {ps : List (List OpD)} {t : TypeId} (hG : uC.heap[G]? = some (.cells arr t (0, 0))) (hPF : Sh.PF uC (u0.heap.size + 1) arr ps) (hGlt : u0.heap.size < G) (bF : Below uC.heap.size uC wF) :
    ∀ w', (∀ x, u0.heap.size ≤ x → x < uC.heap.size → w'.heap[x]? = wF.heap[x]?) → Sh.PAt w' (some ⟨G, 0, none⟩) ps := by
  intro w' h
  have e : ∀ x, u0.heap.size ≤ x → x < uC.heap.size → w'.heap[x]? = uC.heap[x]? := fun x h1 h2 => (h x h1 h2).trans (bF.block x h2)
  exact Sh.PF.at (pf_keep hPF (fun x h1 h2 => e x (by omega) h2)) ((e G (by omega) (heap_lt hG)).trans hG)
section
variable {w w1 uC uK : World} {G : Nat} {arr : Array Value} {ps : List (List OpD)}
theorem nf1 (b1 : Below w.heap.size w w1) (bC : Below w1.drew.heap.size w1.drew uC) (hG : uC.heap[G]? = some (.cells arr 64 (0, 0))) (hPF : Sh.PF uC (w1.drew.heap.size + 1) arr ps) (hGlt : w1.drew.heap.size < G) (pK : Cr.PC uK uC.heap.size (fun k => k = uC.heap.size) []) (bK : Below uC.heap.size uC uK) :
    NF w ((uK.alloc (.cells #[.pointer none, .pointer none, .pointer none, .pointer none, .pointer none, .pointer none, .pointer none, .pointer none] 150)).alloc (.cells (lz G ps.length uC.heap.size uK.heap.size) 74)) (uK.heap.size + 1) G uC.heap.size uK.heap.size ps := by
  have ba := btr (below_alloc uK (.cells #[.pointer none, .pointer none, .pointer none, .pointer none, .pointer none, .pointer none, .pointer none, .pointer none] 150)) (below_alloc _ (.cells (lz G ps.length uC.heap.size uK.heap.size) 74))
  have s1 := b1.size
  have s2 : w1.heap.size ≤ uC.heap.size := bC.size
  have s3 := pK.lt
  refine ⟨En.heap_new2 _ _ _, heap_below (heap_new _ _) (below_alloc _ _), pK.below ba, ⟨w1.heap.size, uC.heap.size, nf_static (u0 := w1.drew) hG hPF hGlt (btr bK ba), by omega, by omega, by omega⟩, by omega, by omega, btr b1 (btr (bdrew1 w1) (btr bC (btr bK ba)))⟩
theorem nf2 (b1 : Below w.heap.size w w1) (bC : Below w1.drew.heap.size w1.drew uC) (hG : uC.heap[G]? = some (.cells arr 64 (0, 0))) (hPF : Sh.PF uC (w1.drew.heap.size + 1) arr ps) (hGlt : w1.drew.heap.size < G) (pK : Cr.PC uK (uC.alloc (.cells #[.pointer none, .pointer none, .pointer none, .pointer none, .pointer none, .pointer none, .pointer none, .pointer none] 150)).heap.size (fun k => k = (uC.alloc (.cells #[.pointer none, .pointer none, .pointer none, .pointer none, .pointer none, .pointer none, .pointer none, .pointer none] 150)).heap.size) []) (bK : Below (uC.alloc (.cells #[.pointer none, .pointer none, .pointer none, .pointer none, .pointer none, .pointer none, .pointer none, .pointer none] 150)).heap.size (uC.alloc (.cells #[.pointer none, .pointer none, .pointer none, .pointer none, .pointer none, .pointer none, .pointer none, .pointer none] 150)) uK) :
    NF w (uK.alloc (.cells (lz G ps.length (uC.heap.size + 1) uC.heap.size) 74)) uK.heap.size G (uC.heap.size + 1) uC.heap.size ps := by
  rw [World.size_alloc] at pK
  have ba := below_alloc uK (.cells (lz G ps.length (uC.heap.size + 1) uC.heap.size) 74)
  have bc := below_alloc uC (.cells #[.pointer none, .pointer none, .pointer none, .pointer none, .pointer none, .pointer none, .pointer none, .pointer none] 150)
  have s1 := b1.size
  have s2 : w1.heap.size ≤ uC.heap.size := bC.size
  have s3 := pK.lt
  refine ⟨heap_new _ _, heap_below (heap_new _ _) (btr bK ba), pK.below ba, ⟨w1.heap.size, uC.heap.size, nf_static (u0 := w1.drew) hG hPF hGlt (btr bc (btr bK ba)), by omega, by omega, by omega⟩, by omega, by omega, btr b1 (btr (bdrew1 w1) (btr bC (btr bc (btr bK ba))))⟩
theorem nf3 (b1 : Below w.heap.size w w1) (bC : Below (w1.alloc (.cells #[.pointer none, .pointer none, .pointer none, .pointer none, .pointer none, .pointer none, .pointer none, .pointer none] 150)).drew.heap.size (w1.alloc (.cells #[.pointer none, .pointer none, .pointer none, .pointer none, .pointer none, .pointer none, .pointer none, .pointer none] 150)).drew uC) (hG : uC.heap[G]? = some (.cells arr 64 (0, 0))) (hPF : Sh.PF uC ((w1.alloc (.cells #[.pointer none, .pointer none, .pointer none, .pointer none, .pointer none, .pointer none, .pointer none, .pointer none] 150)).drew.heap.size + 1) arr ps) (hGlt : (w1.alloc (.cells #[.pointer none, .pointer none, .pointer none, .pointer none, .pointer none, .pointer none, .pointer none, .pointer none] 150)).drew.heap.size < G) (pK : Cr.PC uK uC.heap.size (fun k => k = uC.heap.size) []) (bK : Below uC.heap.size uC uK) :
    NF w (uK.alloc (.cells (lz G ps.length uC.heap.size w1.heap.size) 74)) uK.heap.size G uC.heap.size w1.heap.size ps := by
  have ba := below_alloc uK (.cells (lz G ps.length uC.heap.size w1.heap.size) 74)
  have bx := btr (below_alloc w1 (.cells #[.pointer none, .pointer none, .pointer none, .pointer none, .pointer none, .pointer none, .pointer none, .pointer none] 150)) (bdrew1 _)
  have s1 := b1.size
  have sx : (w1.alloc (.cells #[.pointer none, .pointer none, .pointer none, .pointer none, .pointer none, .pointer none, .pointer none, .pointer none] 150)).drew.heap.size = w1.heap.size + 1 := World.size_alloc _ _
  have s2 := bC.size
  rw [sx] at s2
  have s3 := pK.lt
  refine ⟨heap_new _ _, heap_below (heap_new _ _) (btr (bdrew1 _) (btr bC (btr bK ba))), pK.below ba, ⟨w1.heap.size + 1, uC.heap.size, ?_, by omega, by omega, by omega⟩, by omega, by omega, btr b1 (btr bx (btr bC (btr bK ba)))⟩
  have := nf_static (u0 := (w1.alloc (.cells #[.pointer none, .pointer none, .pointer none, .pointer none, .pointer none, .pointer none, .pointer none, .pointer none] 150)).drew) hG hPF hGlt (btr bK ba)
  rw [sx] at this
  exact this
end
def nmI (i : Nat) : List Int := List.replicate i (-1) ++ List.replicate (8 - i) 0
theorem nmI_len {i : Nat} (h : i ≤ 8) : (nmI i).length = 8 := by simp [nmI]; omega
theorem nmI_step {i : Nat} (h : i < 8) : (nmI i).set i (-1) = nmI (i + 1) := by
  rcases (show i = 0 ∨ i = 1 ∨ i = 2 ∨ i = 3 ∨ i = 4 ∨ i = 5 ∨ i = 6 ∨ i = 7 by omega) with rfl | rfl | rfl | rfl | rfl | rfl | rfl | rfl <;> rfl
theorem lcs_at (pa : Option Addr) (n pc C B X : Nat) (nm : List Int) (md : Int) (ta : Option Addr) (tn tc : Nat) (pk : Bool) {k : Nat} (hk : k < 8) : (lcs pa n pc C B X nm md ta tn tc pk)[4 + k]? = some (.int .i64 (nth nm k)) := by
  rcases (show k = 0 ∨ k = 1 ∨ k = 2 ∨ k = 3 ∨ k = 4 ∨ k = 5 ∨ k = 6 ∨ k = 7 by omega) with rfl | rfl | rfl | rfl | rfl | rfl | rfl | rfl <;> rfl
theorem new_lx {w wF wr : World} {L G B X C : Nat} {ps : List (List OpD)} {pl dr : List Int} (h : NF w wF L G B X ps)
    (hl : wr.heap[L]? = some (.cells (lcs (some ⟨G, 0, none⟩) ps.length ps.length C B X (nmI 8) 0 none 0 0 false) 74 (0, 0))) (hk : ∀ x, x < wF.heap.size → x ≠ L → wr.heap[x]? = wF.heap[x]?) (hsz : wF.heap.size ≤ wr.heap.size)
    (cu : Lk.Cu wr wF.heap.size C pl dr) (hC : wF.heap.size ≤ C) :
    ∃ col, LX wr col L wF.heap.size C B X (fun k => k = B) (some ⟨G, 0, none⟩) ps.length (List.replicate 8 none) (fun _ _ => False) none 0 ⟨ps, pl, dr, [], List.replicate 8 none, List.replicate 8 (-1), 0, [], false⟩ ∧ ∀ x, x < w.heap.size → col x = 7 := by
  obtain ⟨lo, hi, hst, ⟨g1, g2⟩, g3, g4⟩ := h.st
  obtain ⟨n1, n2, n3⟩ := h.ne
  obtain ⟨m1, m2⟩ := h.ge
  have hL := heap_lt h.hl
  have hrow : wr.heap[X]? = some (.cells ((List.replicate 8 none).map Pe.pt).toArray 150 (0, 0)) := (hk X (by omega) (by omega)).trans h.hx
  refine ⟨fun x => if x = L then 0 else if wF.heap.size ≤ x ∧ x ≤ C then 1 else if x = B then 2 else if x = X then 3 else if lo ≤ x ∧ x < hi then 6 else 7, ⟨hl, rfl, ?_, cu, hC, ?_, hrow, ?_, rfl, World.ownsRow_nil _ _ _ _, ?_, ?_, ?_, ?_, ?_, ?_⟩, ?_⟩
  · intro w' hw
    refine hst w' fun x h1 h2 => ?_
    have hx : x < wF.heap.size := by omega
    refine (hw x (by omega) ?_).trans (hk x hx (by omega))
    rw [if_neg (by omega), if_neg (by omega), if_neg (by omega), if_neg (by omega), if_pos ⟨h1, h2⟩]
  · obtain ⟨oa, c, q⟩ := h.hb
    exact ⟨oa, c, q.sm (fun x (e : x = B) => by rw [e]; exact hk B (by omega) (by omega))⟩
  · refine ⟨pr_row hrow, rfl, fun i B' e => ?_, fun i e => ?_, fun _ _ _ _ hf => hf.elim, fun _ _ _ hf => hf, fun _ _ hf => hf.elim⟩
    · have := List.mem_of_getElem? e
      simp at this
    · have hi8 := (List.getElem?_eq_some_iff.1 e).1
      rw [List.length_replicate] at hi8
      rw [List.getElem?_replicate, if_pos hi8]
  · simp
  · intro x h1 h2
    rw [if_neg (by omega), if_pos ⟨h1, h2⟩]
  · intro x (e : x = B)
    rw [if_neg (by omega), if_neg (by omega), if_pos e]
  · rw [if_neg (by omega), if_neg (by omega), if_neg (by omega), if_pos rfl]
  · intro _ _ hf
    exact hf.elim
  · intro g e
    simp [Value.ownBlock] at e
  · intro x hx
    show (if x = L then 0 else if wF.heap.size ≤ x ∧ x ≤ C then 1 else if x = B then 2 else if x = X then 3 else if lo ≤ x ∧ x < hi then 6 else 7) = 7
    rw [if_neg (by omega), if_neg (by omega), if_neg (by omega), if_neg (by omega), if_neg (by omega)]
set_option maxRecDepth 100000 in
set_option maxHeartbeats 3200000 in
theorem new_yes (T M : Int) (ps : List (List OpD)) (pl dr : List Int) (pa la da : Option Addr) (pc lc dc : Nat) (w : World) (hS : Sh.SAt w ⟨T, M, ps, pl, dr⟩ pa la da) (hx : Sh.schk ⟨T, M, ps, pl, dr⟩ = 0) :
    Calls Tryz.prog 10 #[.agg #[.int .i64 T, .int .i64 M, .slice pa ps.length pc, .slice la pl.length lc, .slice da dr.length dc]] w fun r w' => ∃ L col, r = .returned (.tuple #[.pointer (some ⟨L, 0, none⟩), .int .i64 0]) ∧ LW w' col L (newS ⟨T, M, ps, pl, dr⟩) ∧ (∀ x, x < w.heap.size → col x = 7) ∧ Below w.heap.size w w' := by
  obtain ⟨q1, q2, q3, q4, q5, q6, q7⟩ := schk_ok hx
  simp only at q1 q2 q3 q4 q5 q6 q7
  have sml : Sh.Small ps pl dr := ⟨by omega, fun q hq => by have := q2 q hq; omega, fun q hq o ho => by
    obtain ⟨a, ha⟩ := List.getElem?_of_mem hq
    obtain ⟨b, hb⟩ := List.getElem?_of_mem ho
    have := (op_ok (Sh.ari_of q5 ha hb)).2.2.1
    omega, by omega, by omega⟩
  have CK := hide (Sh.scheck_any T M ps pl dr pa la da pc lc dc (w.alloc (.cells #[.int .i64 T, .int .i64 M, .slice pa ps.length pc, .slice la pl.length lc, .slice da dr.length dc] 25)) (hS.below (below_alloc _ _)))
  rw [hx] at CK
  have CP := hide (fun u (hb : Below w.heap.size w u) => Sh.copy_any T M ps pl dr pa la da pc lc dc u (hS.below hb) sml)
  have NE : Pk.ne pl dr = 0 := by
    unfold Pk.ne
    have a1 : Pk.ab (-1) 1000 pl = true := (Pk.ab_iff _ _ _).2 q6
    have a2 : Pk.ab 0 1000 dr = true := (Pk.ab_iff _ _ _).2 q7
    have a3 : decide (200 < pl.length) = false := by simp; omega
    have a4 : decide (64 < dr.length) = false := by simp; omega
    rw [a1, a2, a3, a4]
    rfl
  have PN := hide (fun u (hb : Below w.heap.size w u) => Lk.new_cu la da pl dr lc dc u (hS.pl.below hb) (hS.dr.below hb) NE)
  have HS := hide hS
  clear hS NE
  go_enter Tryz.func10, Tryz.ntmps10
  go_wp2_with fail
  refine CK.out.mono ?_
  rintro r w1 ⟨rfl, b1⟩
  have E1 := hide (heap_below (heap_new w (.cells #[.int .i64 T, .int .i64 M, .slice pa ps.length pc, .slice la pl.length lc, .slice da dr.length dc] 25)) b1)
  have B1 := hide (btr (below_alloc w (.cells #[.int .i64 T, .int .i64 M, .slice pa ps.length pc, .slice la pl.length lc, .slice da dr.length dc] 25)) b1)
  have c0 : w1.cell? ⟨w.heap.size, 0, none⟩ = some (.int .i64 T) := cell_of E1.out 0
  have c1 : w1.cell? ⟨w.heap.size, 1, none⟩ = some (.int .i64 M) := cell_of E1.out 1
  have c2 : w1.cell? ⟨w.heap.size, 2, none⟩ = some (.slice pa ps.length pc) := cell_of E1.out 2
  have c3 : w1.cell? ⟨w.heap.size, 3, none⟩ = some (.slice la pl.length lc) := cell_of E1.out 3
  have c4 : w1.cell? ⟨w.heap.size, 4, none⟩ = some (.slice da dr.length dc) := cell_of E1.out 4
  have ne0 := World.new_ne w1 _ c0
  have ne1 := World.new_ne w1 _ c1
  have ne2 := World.new_ne w1 _ c2
  have ne3 := World.new_ne w1 _ c3
  have ne4 := World.new_ne w1 _ c4
  clear b1 CK
  have hfp := field_ps
  have hmk := mk8
  go_wp2_with fail
  go_region_held3 (fun w' => w'.cell? ⟨w.heap.size, 0, none⟩ = some (.int .i64 T) ∧ w'.cell? ⟨w.heap.size, 1, none⟩ = some (.int .i64 M) ∧ w'.cell? ⟨w.heap.size, 2, none⟩ = some (.slice pa ps.length pc) ∧ w'.cell? ⟨w.heap.size, 3, none⟩ = some (.slice la pl.length lc) ∧ w'.cell? ⟨w.heap.size, 4, none⟩ = some (.slice da dr.length dc))
    (first | (go_keep; done) | (go_split_ands; refine ⟨?_, ?_, ?_, ?_, ?_⟩ <;> (refine Sh.cellB ?_ bC; assumption)) | (go_split_ands; refine ⟨?_, ?_, ?_, ?_, ?_⟩ <;> (refine Sh.cellB ?_ bK; assumption)))
    (first
      | (go_at_call 24; refine (CP.out _ (by first | exact btr B1.out (bdrew1 _) | exact btr B1.out (btr (below_alloc _ _) (bdrew1 _)) | exact btr B1.out (btr (bdrew1 _) (below_alloc _ _)))).mono ?_; rintro r uC ⟨⟨G, L', D', arr, rfl, ⟨hG, hPF, hGlt⟩, -, -, -⟩, bC⟩)
      | (go_at_call 25; refine (Cr.new_any _).mono ?_; rintro r uK ⟨rfl, pK, bK⟩))
  case' _ => have NFF := hide (nf1 B1.out bC hG hPF hGlt pK bK)
  rotate_left
  case' _ => have NFF := hide (nf2 B1.out bC hG hPF hGlt pK bK)
  rotate_left
  case' _ => have NFF := hide (nf3 B1.out bC hG hPF hGlt pK bK)
  rotate_left
  all_goals
    rename_i hH
    unfold lz at NFF
    clear bC hG hPF hGlt pK bK c0 c1 c2 c3 c4 ne0 ne1 ne2 ne3 ne4 E1 B1
  case' _ =>
    generalize (uK.alloc (.cells #[.pointer none, .pointer none, .pointer none, .pointer none, .pointer none, .pointer none, .pointer none, .pointer none] 150)).alloc (.cells #[.slice (some ⟨G, 0, none⟩) ps.length ps.length, .pointer none, .pointer (some ⟨uC.heap.size, 0, none⟩), .slice (some ⟨uK.heap.size, 0, none⟩) 8 8, .int .i64 0, .int .i64 0, .int .i64 0, .int .i64 0, .int .i64 0, .int .i64 0, .int .i64 0, .int .i64 0, .int .i64 0, .slice none 0 0, .bool false] 74) = wF at *
    generalize uK.heap.size + 1 = L at *
    generalize uC.heap.size = B at *
    generalize uK.heap.size = X at *
  rotate_left
  case' _ =>
    generalize uK.alloc (.cells #[.slice (some ⟨G, 0, none⟩) ps.length ps.length, .pointer none, .pointer (some ⟨uC.heap.size + 1, 0, none⟩), .slice (some ⟨uC.heap.size, 0, none⟩) 8 8, .int .i64 0, .int .i64 0, .int .i64 0, .int .i64 0, .int .i64 0, .int .i64 0, .int .i64 0, .int .i64 0, .int .i64 0, .slice none 0 0, .bool false] 74) = wF at *
    generalize uC.heap.size + 1 = B at *
    generalize uC.heap.size = X at *
    generalize uK.heap.size = L at *
  rotate_left
  case' _ =>
    generalize uK.alloc (.cells #[.slice (some ⟨G, 0, none⟩) ps.length ps.length, .pointer none, .pointer (some ⟨uC.heap.size, 0, none⟩), .slice (some ⟨w1.heap.size, 0, none⟩) 8 8, .int .i64 0, .int .i64 0, .int .i64 0, .int .i64 0, .int .i64 0, .int .i64 0, .int .i64 0, .int .i64 0, .int .i64 0, .slice none 0 0, .bool false] 74) = wF at *
    generalize uC.heap.size = B at *
    generalize w1.heap.size = X at *
    generalize uK.heap.size = L at *
  rotate_left
  all_goals
    obtain ⟨-, -, -, d3, d4⟩ := hH
    have PNF := hide (PN.out wF NFF.out.bl)
    have FL := hide NFF.out.hl
    have f1 := frozen_of NFF.out.hl 1
    have g1 := cell_of NFF.out.hl 1
    simp [lz] at g1
    have hLF := heap_lt NFF.out.hl
    clear PN CP HS
    go_wp2_with fail
    refine PNF.out.mono ?_
    rintro r w5 ⟨C, rfl, hC, cu5, b5⟩
    have L5 := hide (heap_below FL.out b5)
    have y1 := cell_of L5.out 1
    have yf := frozen_of L5.out 1
    simp [lz] at y1
    have L6 : Hid ((w5.setCell ⟨L, 1, none⟩ (.pointer (some ⟨C, 0, none⟩))).heap[L]? = some (.cells (lcs (some ⟨G, 0, none⟩) ps.length ps.length C B X (nmI 0) 0 none 0 0 false) 74 (0, 0))) := (Ba.heap_setCell_same L5.out _).trans rfl
    have K6 : Hid (∀ x, x < wF.heap.size → x ≠ L → (w5.setCell ⟨L, 1, none⟩ (.pointer (some ⟨C, 0, none⟩))).heap[x]? = wF.heap[x]?) := fun x h1 h2 => (((KB.refl L w5).setCell 1 _).block x (Nat.lt_of_lt_of_le h1 b5.size) h2).trans (b5.block x h1)
    have S6 : Hid (wF.heap.size ≤ (w5.setCell ⟨L, 1, none⟩ (.pointer (some ⟨C, 0, none⟩))).heap.size) := Nat.le_trans b5.size ((KB.refl L w5).setCell 1 _).size
    have U6 := hide (cu5.keep (w' := w5.setCell ⟨L, 1, none⟩ (.pointer (some ⟨C, 0, none⟩))) (fun x h1 h2 => ((KB.refl L w5).setCell 1 _).block x (Nat.lt_of_le_of_lt h2 cu5.lt) (by omega)) hC)
    have O6 : Hid ((w5.setCell ⟨L, 1, none⟩ (.pointer (some ⟨C, 0, none⟩))).os = w.os ∧ (w5.setCell ⟨L, 1, none⟩ (.pointer (some ⟨C, 0, none⟩))).tape = w.tape ∧ (w5.setCell ⟨L, 1, none⟩ (.pointer (some ⟨C, 0, none⟩))).output = w.output) := ⟨b5.os.trans NFF.out.bl.os, b5.tape.trans NFF.out.bl.tape, b5.output.trans NFF.out.bl.output⟩
    clear cu5 b5 PNF f1 g1 L5 FL
    go_wp2_with fail
    go_loopw [30] (fun iv wr => ∃ i : Nat, i ≤ 8 ∧ iv = .int .i64 i ∧ wr.heap[L]? = some (.cells (lcs (some ⟨G, 0, none⟩) ps.length ps.length C B X (nmI i) 0 none 0 0 false) 74 (0, 0)) ∧ KB L (w5.setCell ⟨L, 1, none⟩ (.pointer (some ⟨C, 0, none⟩))) wr) (fun iv _ => 8 - (intOf iv).toNat)
    case atStart => exact ⟨0, by omega, rfl, L6.out, KB.refl _ _⟩
    case round =>
      obtain ⟨i, hi, rfl, hlr, hkr⟩ := hrel
      have HLR := hide hlr
      have HKR := hide hkr
      clear hlr hkr
      by_cases hlt : i < 8
      · have hlt' : (i : Int) < 8 := by omega
        have hi0 : (0 : Int) ≤ (i : Int) := by omega
        have u0 : wr.cell? ⟨L, 4 + i, none⟩ = some (.int .i64 (nth (nmI i) i)) := (cell_of HLR.out (4 + i)).trans (lcs_at _ _ _ _ _ _ _ _ _ _ _ _ hlt)
        have uf : wr.frozen? ⟨L, 4 + i, none⟩ = false := frozen_of HLR.out (4 + i)
        go_wp2_with fail
        go_roundw
        case rel =>
          refine ⟨i + 1, by omega, by go_num, ?_, HKR.out.setCell _ _⟩
          rw [Ba.heap_setCell_same HLR.out, lcs_num _ _ _ _ _ _ _ _ _ _ _ _ i (-1) (nmI_len hi) hlt, nmI_step hlt]
        case measure => simp [intOf]; omega
      · have hlt' : ¬ ((i : Int) < 8) := by omega
        obtain rfl : i = 8 := by omega
        obtain ⟨col, hX, h7⟩ := new_lx NFF.out HLR.out (fun x h1 h2 => (HKR.out.block x (Nat.lt_of_lt_of_le h1 S6.out) h2).trans (K6.out x h1 h2)) (Nat.le_trans S6.out HKR.out.size) (U6.out.keep (fun x h1 h2 => HKR.out.block x (Nat.lt_of_le_of_lt h2 U6.out.lt) (by omega)) hC) hC
        have HX := hide hX
        have H7 := hide h7
        have SP := hide (Cr.spawn_any B (fun k => k = B) [] 0 wr hX.cr)
        have y2 : wr.cell? ⟨L, 2, none⟩ = some (.pointer (some ⟨B, 0, none⟩)) := cell_of hX.hp 2
        have bw : Hid (Below w.heap.size w wr) := by
          have q := NFF.out.ge
          have q2 := NFF.out.ne
          refine ⟨HKR.out.os.trans O6.out.1, HKR.out.tape.trans O6.out.2.1, HKR.out.output.trans O6.out.2.2, ?_, fun x hx => ?_⟩
          · exact Nat.le_trans (Nat.le_trans NFF.out.bl.size S6.out) HKR.out.size
          · have hxF : x < wF.heap.size := Nat.lt_of_lt_of_le hx NFF.out.bl.size
            exact (HKR.out.block x (Nat.lt_of_lt_of_le hxF S6.out) (by omega)).trans ((K6.out x hxF (by omega)).trans (NFF.out.bl.block x hx))
        clear hX h7 K6 S6 U6 O6 L6
        go_wp2_with fail
        refine SP.out.mono ?_
        rintro r w8 ⟨rfl, p8⟩
        obtain ⟨FB8, col8, h8, t8⟩ := HX.out.crew p8
        have H8 := hide h8
        have B8 : Hid (Below w.heap.size w w8) := ⟨t8.os.trans bw.out.os, t8.tape.trans bw.out.tape, t8.output.trans bw.out.output, Nat.le_trans bw.out.size t8.size, fun x hx => (t8.block x (Nat.lt_of_lt_of_le hx bw.out.size) (by rw [H7.out x hx]; omega)).trans (bw.out.block x hx)⟩
        have C8 : Hid (∀ x, x < w.heap.size → col8 x = 7) := fun x hx => (t8.old x (Nat.lt_of_lt_of_le hx bw.out.size)).trans (H7.out x hx)
        clear h8 t8 p8 SP
        go_wp2_with fail
        go_ret2
        exact ⟨L, col8, rfl, H8.out.lw, C8.out, B8.out⟩
end Lo
end Go.Proofs.YtddchcekljndmaaGreat
/- A loom's Trace, Len, State and Run, over this seat's program. -/
namespace Go.Proofs.YtddchcekljndmaaGreat
open Go.ChangeShapes Go.WideShapes Go.ChangeAt Go.RowKit
namespace Lo
open Ba

theorem trace_any (L : Nat) (col : Nat → Nat) (s : Lm) (w : World) (h : LW w col L s) (hl : s.tr.length ≤ 1000000) :
    Calls Tryz.prog 22 #[.pointer (some ⟨L, 0, none⟩)] w fun r w' => ∃ ob d, r = .returned (.slice ob s.tr.length d) ∧ EsAt w' ob s.tr ∧ (s.tr.length ≤ d ∧ ∀ a, ob = some a → w.heap.size ≤ a.block) ∧ Below w.heap.size w w' := by
  obtain ⟨N, C, B, X, FB, pa, pc, bs, Fs, ta, tc, h⟩ := h
  have y13 : w.cell? ⟨L, 13, none⟩ = some (.slice ta s.tr.length tc) := cell_of h.hp 13
  obtain ⟨ob, d, e, hE, -⟩ := own_es h.tr
  cases e
  have CE := hide (clone_es ta s.tr tc w hE hl)
  clear h hE
  go_enter Tryz.func22, Tryz.ntmps22
  go_wp2_with fail
  refine CE.out.mono ?_
  rintro r w1 ⟨ob, d, rfl, e1, n1, b1⟩
  have E1 := hide e1
  have N1 := hide n1
  have B1 := hide b1
  clear e1 n1 b1
  go_wp2_with fail
  go_ret
  exact ⟨ob, d, rfl, E1.out, N1.out, B1.out⟩
theorem len_any (L : Nat) (col : Nat → Nat) (s : Lm) (w : World) (h : LW w col L s) :
    Calls Tryz.prog 20 #[.pointer (some ⟨L, 0, none⟩)] w fun r w' => r = .returned (.int .i64 (s.cr.length : Int)) ∧ w' = w := by
  obtain ⟨N, C, B, X, FB, pa, pc, bs, Fs, ta, tc, h⟩ := h
  have y2 : w.cell? ⟨L, 2, none⟩ = some (.pointer (some ⟨B, 0, none⟩)) := cell_of h.hp 2
  have LE := hide (Cr.len_any B FB s.cr w h.cr)
  clear h
  go_enter Tryz.func20, Tryz.ntmps20
  go_wp2_with fail
  refine LE.out.mono ?_
  rintro r w1 ⟨rfl, rfl⟩
  go_wp2_with fail
  go_ret
  exact ⟨rfl, rfl⟩
theorem state_any (L : Nat) (col : Nat → Nat) (s : Lm) (g : Int) (w : World) (h : LW w col L s) :
    Calls Tryz.prog 21 #[.pointer (some ⟨L, 0, none⟩), .int .i64 g] w fun r w' => r = .returned (.tuple #[.int .i64 (Cr.one0 (Cr.gt s.cr g)).s, .bool (Cr.thr s.cr g)]) ∧ w' = w := by
  obtain ⟨N, C, B, X, FB, pa, pc, bs, Fs, ta, tc, h⟩ := h
  have y2 : w.cell? ⟨L, 2, none⟩ = some (.pointer (some ⟨B, 0, none⟩)) := cell_of h.hp 2
  have ST := hide (Cr.state_any B FB s.cr g w h.cr)
  clear h
  generalize (Cr.one0 (Cr.gt s.cr g)).s = x at ST ⊢
  go_enter Tryz.func21, Tryz.ntmps21
  go_wp2_with fail
  refine ST.out.mono ?_
  rintro r w1 ⟨rfl, rfl⟩
  go_wp2_with fail
  go_ret2
  exact ⟨rfl, rfl⟩
/-- all steps of a run -/
def runF (sc : Sh.Sc) : Lm := stepsF sc.pl.length (newS sc)
theorem steps_succ : ∀ (n : Nat) (s : Lm), stepsF (n + 1) s = stepF (stepsF n s)
  | 0, _ => rfl
  | n + 1, s => steps_succ n (stepF s)
theorem step_end {s : Lm} (h : verd s ≠ 0) : stepF s = s := by
  unfold stepF
  rw [if_pos h]
theorem steps_end {s : Lm} (h : verd s ≠ 0) : ∀ n, stepsF n s = s
  | 0 => rfl
  | n + 1 => by rw [steps_succ, steps_end h n, step_end h]
theorem steps_add (m : Nat) : ∀ (n : Nat) (s : Lm), stepsF (n + m) s = stepsF m (stepsF n s)
  | 0, s => by rw [Nat.zero_add]; rfl
  | n + 1, s => by rw [Nat.add_right_comm]; exact steps_add m n (stepF s)
/-- as long as the run is not over each step takes an entry of the plan -/
theorem Inv.end_ {sc : Sh.Sc} {n : Nat} {s : Lm} (i : Inv sc n s) (h : verd s = 0) : n < sc.pl.length := by
  have hpl : s.p.length ≠ 0 := fun z => by
    unfold verd at h
    rw [if_pos z] at h
    split at h
    · omega
    · split at h <;> omega
  rw [i.p, List.length_drop] at hpl
  omega
theorem Inv.steps {sc : Sh.Sc} (hs : Sh.schk sc = 0) : ∀ n, ∃ k, k ≤ n ∧ Inv sc k (stepsF n (newS sc)) ∧ (verd (stepsF n (newS sc)) = 0 → k = n)
  | 0 => ⟨0, Nat.le_refl _, Inv.new hs, fun _ => rfl⟩
  | n + 1 => by
    obtain ⟨k, hk, i, he⟩ := Inv.steps hs n
    rw [steps_succ]
    by_cases hv : verd (stepsF n (newS sc)) = 0
    · obtain rfl := he hv
      exact ⟨k + 1, Nat.le_refl _, i.step hs hv, fun _ => rfl⟩
    · rw [step_end hv]
      exact ⟨k, by omega, i, fun h => absurd h hv⟩
theorem run_over {sc : Sh.Sc} (hs : Sh.schk sc = 0) : verd (runF sc) ≠ 0 := by
  intro h
  obtain ⟨k, -, i, he⟩ := Inv.steps hs sc.pl.length
  have := he h
  have := i.end_ h
  omega
theorem run_at {sc : Sh.Sc} {n : Nat} (hn : n ≤ sc.pl.length) (h : verd (stepsF n (newS sc)) ≠ 0) : runF sc = stepsF n (newS sc) := by
  unfold runF
  obtain ⟨m, e⟩ : ∃ m, sc.pl.length = n + m := ⟨sc.pl.length - n, by omega⟩
  rw [e, steps_add, steps_end h]
set_option maxRecDepth 100000 in
set_option maxHeartbeats 1600000 in
theorem run_yes (T M : Int) (ps : List (List OpD)) (pl dr : List Int) (pa la da : Option Addr) (pc lc dc : Nat) (w : World) (hS : Sh.SAt w ⟨T, M, ps, pl, dr⟩ pa la da) (hx : Sh.schk ⟨T, M, ps, pl, dr⟩ = 0) (R : Lm) (hR : runF ⟨T, M, ps, pl, dr⟩ = R) :
    Calls Tryz.prog 7 #[.agg #[.int .i64 T, .int .i64 M, .slice pa ps.length pc, .slice la pl.length lc, .slice da dr.length dc]] w fun r w' => ∃ ob d, r = .returned (.tuple #[.slice ob R.tr.length d, .int .i64 (verd R)]) ∧ EsAt w' ob R.tr ∧ (R.tr.length ≤ d ∧ ∀ a, ob = some a → w.heap.size ≤ a.block) ∧ Below w.heap.size w w' := by
  have NE := hide (new_yes T M ps pl dr pa la da pc lc dc (w.alloc (.cells #[.int .i64 T, .int .i64 M, .slice pa ps.length pc, .slice la pl.length lc, .slice da dr.length dc] 25)) (hS.below (below_alloc _ _)) hx)
  have HR := hide hR
  have hro := run_over hx
  rw [hR] at hro
  generalize hsc : (⟨T, M, ps, pl, dr⟩ : Sh.Sc) = sc at *
  have hpl : sc.pl = pl := by rw [← hsc]
  clear hS hR
  go_enter Tryz.func7, Tryz.ntmps7
  go_wp2_with fail
  refine NE.out.mono ?_
  rintro r w1 ⟨L, col, rfl, h1, h7, b1⟩
  have H1 := hide h1
  have H7 : Hid (∀ x, x < w.heap.size → col x = 7) := fun x hx => h7 x (Nat.lt_of_lt_of_le hx (below_alloc w (.cells #[.int .i64 T, .int .i64 M, .slice pa ps.length pc, .slice la pl.length lc, .slice da dr.length dc] 25)).size)
  have B1 := hide (btr (below_alloc w (.cells #[.int .i64 T, .int .i64 M, .slice pa ps.length pc, .slice la pl.length lc, .slice da dr.length dc] 25)) b1)
  clear h1 h7 b1 NE
  go_wp2_with fail
  go_loopg [13] sc.pl.length (fun k _ wr => ∃ (n : Nat) (cj : Nat → Nat), k + n = sc.pl.length ∧ LW wr cj L (stepsF n (newS sc)) ∧ Inv sc n (stepsF n (newS sc)) ∧ Tr col cj w1 wr)
  case atStart => exact ⟨0, col, rfl, H1.out, Inv.new hx, Tr.refl _ _⟩
  case round =>
    obtain ⟨n, cj, hkn, hlw, hinv, htr⟩ := hrel
    have HL := hide hlw
    have HI := hide hinv
    have HT := hide htr
    have RA := hide (run_at (sc := sc) (n := n) (by omega))
    have SS := hide (steps_succ n (newS sc))
    clear hlw hinv htr H1
    generalize stepsF n (newS sc) = s at *
    have VE := hide (fun u c (q : LW u c L s) => verdict_any L c s _ u q HI.out.b.bw.cb)
    by_cases hv : verd s = 0
    · rw [hv] at VE
      go_wp2_with fail
      refine (VE.out _ cj HL.out).mono ?_
      rintro r w2 ⟨rfl, b2⟩
      obtain ⟨c2, h2, t2, -⟩ := HL.out.below b2
      have ST := hide (step_any L c2 sc n s w2 h2 hx HI.out hv)
      have T2 := hide (HT.out.trans t2)
      clear b2 h2 t2
      go_wp2_with fail
      refine ST.out.mono ?_
      rintro r w3 ⟨ob, d, rfl, -, c3, h3, t3⟩
      have H3 : Hid (LW w3 c3 L (stepsF (n + 1) (newS sc))) := by rw [SS.out]; exact h3
      have I3 : Hid (Inv sc (n + 1) (stepsF (n + 1) (newS sc))) := by rw [SS.out]; exact HI.out.step hx hv
      have T3 := hide (T2.out.trans t3)
      have hlt := HI.out.end_ hv
      clear h3 t3 ST
      go_wp2_with fail
      go_roundg (gk - 1)
      case rel => exact ⟨n + 1, c3, by omega, H3.out, I3.out, T3.out⟩
      case measure => omega
    · have hRs : R = s := by rw [← HR.out]; exact RA.out hv
      subst hRs
      have VE0 := hide (VE.out _ cj HL.out)
      have hvv : (verd R == 0) = false := by simp [hv]
      have hK := kn_le (HI.out.n200 hx)
      have htn := HI.out.b.bw.tn
      generalize hV : verd R = V at *
      go_wp2_with fail
      refine VE0.out.mono ?_
      rintro r w2 ⟨rfl, b2⟩
      obtain ⟨c2, h2, t2, -⟩ := HL.out.below b2
      have TA := hide (trace_any L c2 R w2 h2 (by omega))
      have H2 := hide h2
      have BB : Hid (Below w.heap.size w w2) := by
        have q := HT.out.trans t2
        exact ⟨q.os.trans B1.out.os, q.tape.trans B1.out.tape, q.output.trans B1.out.output, Nat.le_trans B1.out.size q.size, fun x hx => (q.block x (Nat.lt_of_lt_of_le hx B1.out.size) (by rw [H7.out x hx]; omega)).trans (B1.out.block x hx)⟩
      clear b2 h2 t2 VE0
      go_wp2_with fail
      refine TA.out.mono ?_
      rintro r w3 ⟨ob, d, rfl, e3, n3, b3⟩
      obtain ⟨c3, h3, -, -⟩ := H2.out.below b3
      have VE3 := hide (VE.out w3 c3 h3)
      have E3 := hide e3
      have N3 : Hid (R.tr.length ≤ d ∧ ∀ a, ob = some a → w.heap.size ≤ a.block) := ⟨n3.1, fun a e => Nat.le_trans BB.out.size (n3.2 a e)⟩
      have B3 := hide (btr BB.out b3)
      clear e3 n3 b3 h3 TA VE
      go_wp2_with fail
      refine VE3.out.mono ?_
      rintro r w4 ⟨rfl, b4⟩
      have B4 := hide (btr B3.out b4)
      have E4 := hide (E3.out.below b4)
      clear b4 VE3
      go_wp2_with fail
      go_ret2
      exact ⟨ob, d, by (rw [hV]) <;> rfl, E4.out, N3.out, B4.out⟩
end Lo
end Go.Proofs.YtddchcekljndmaaGreat
/- The reference's loom: New, Run, over this seat's program. -/
namespace Go.Proofs.YtddchcekljndmaaGreat
open Go.ChangeShapes Go.WideShapes Go.ChangeAt Go.RowKit
namespace Rlo
open Ba Lo

set_option maxRecDepth 100000 in
set_option maxHeartbeats 1600000 in
theorem rlnew_err (T M : Int) (ps : List (List OpD)) (pl dr : List Int) (pa la da : Option Addr) (pc lc dc : Nat) (w : World) (hS : Sh.SAt w ⟨T, M, ps, pl, dr⟩ pa la da) (x : Int) (hx : Sh.schk ⟨T, M, ps, pl, dr⟩ = x) (h0 : x ≠ 0) :
    Calls Tryz.prog 11 #[.agg #[.int .i64 T, .int .i64 M, .slice pa ps.length pc, .slice la pl.length lc, .slice da dr.length dc]] w fun r w' => r = .returned (.tuple #[.pointer none, .int .i64 x]) ∧ Below w.heap.size w w' := by
  have CK := hide (Sh.rscheck_any T M ps pl dr pa la da pc lc dc (w.alloc (.cells #[.int .i64 T, .int .i64 M, .slice pa ps.length pc, .slice la pl.length lc, .slice da dr.length dc] 25)) (hS.below (below_alloc _ _)))
  rw [hx] at CK
  have h0' : (x != 0) = true := by simp [h0]
  clear hS
  go_enter Tryz.func11, Tryz.ntmps11
  go_wp2_with fail
  refine CK.out.mono ?_
  rintro r w1 ⟨rfl, b1⟩
  have B1 := hide (btr (below_alloc w (.cells #[.int .i64 T, .int .i64 M, .slice pa ps.length pc, .slice la pl.length lc, .slice da dr.length dc] 25)) b1)
  clear b1
  go_wp2_with fail
  go_ret2
  exact ⟨rfl, B1.out⟩
theorem rcs_at (q : Hd) (pa : Option Addr) (n pc C B : Nat) (oa : Option Addr) (cn oc : Nat) (nm : List Int) (ta : Option Addr) (tn tc : Nat) (pk : Bool) {k : Nat} (hk : k < 8) : (rcs q pa n pc C B oa cn oc nm ta tn tc pk)[8 + k]? = some (.int .i64 (nth nm k)) := by
  rcases (show k = 0 ∨ k = 1 ∨ k = 2 ∨ k = 3 ∨ k = 4 ∨ k = 5 ∨ k = 6 ∨ k = 7 by omega) with rfl | rfl | rfl | rfl | rfl | rfl | rfl | rfl <;> rfl
theorem at_lt {w : World} {oa : Option Addr} {l : List Int} (h : At w oa l) (h0 : 0 < l.length) : ∀ a, oa = some a → a.block < w.heap.size := by
  intro a e
  obtain ⟨b, off, e2, hc⟩ := h 0 h0
  rw [e] at e2
  cases e2
  exact World.block_lt_of_cell? w _ hc
theorem ni0 : NI (List.replicate 8 (-1)) 0 := by
  refine ⟨rfl, ?_, ?_, ?_⟩
  · intro i hi
    rcases (show i = 0 ∨ i = 1 ∨ i = 2 ∨ i = 3 ∨ i = 4 ∨ i = 5 ∨ i = 6 ∨ i = 7 by omega) with rfl | rfl | rfl | rfl | rfl | rfl | rfl | rfl <;> decide
  · intro i hi
    rcases (show i = 0 ∨ i = 1 ∨ i = 2 ∨ i = 3 ∨ i = 4 ∨ i = 5 ∨ i = 6 ∨ i = 7 by omega) with rfl | rfl | rfl | rfl | rfl | rfl | rfl | rfl <;> decide
  · intro i j hi hj h0 _
    exfalso
    rcases (show i = 0 ∨ i = 1 ∨ i = 2 ∨ i = 3 ∨ i = 4 ∨ i = 5 ∨ i = 6 ∨ i = 7 by omega) with rfl | rfl | rfl | rfl | rfl | rfl | rfl | rfl <;> revert h0 <;> decide
theorem rl_rx {w0 wr : World} {T M : Int} {ps : List (List OpD)} {pl dr : List Int} {pa la da : Option Addr} {pc lc dc N C B L : Nat}
    (hL : wr.heap[L]? = some (.cells (rcs ⟨T, M, la, pl.length, lc, da, dr.length, dc⟩ pa ps.length pc C B none 0 0 (nmI 8) none 0 0 false) 55 (0, 0))) (hB : wr.heap[B]? = some (.cells #[.slice none 0 0] 59 (0, 0))) (cu : Pk.RCur wr C N pl dr) (o1 : N ≤ C) (o2 : C < B) (o3 : B < L)
    (b0 : Below w0.heap.size w0 wr) (hN : w0.heap.size ≤ N) (hp : Sh.PAt w0 pa ps) :
    ∃ col, RX wr col L N C B (fun k => k = B) ⟨T, M, la, pl.length, lc, da, dr.length, dc⟩ pa pc none 0 [] (fun _ _ => False) [] none 0 ⟨ps, pl, dr, [], List.replicate 8 none, List.replicate 8 (-1), 0, [], false⟩ ∧ ∀ x, N ≤ x → x < C → col x = 7 := by
  refine ⟨fun x => if x = L then 0 else if x = C then 1 else if x = B then 2 else if x < N then 6 else 7, ⟨hL, ⟨w0, hN, b0, hp⟩, cu, o1, ⟨none, 0, hB, World.ownsRow_nil _ _ _ _, rfl, fun g e => by simp [Value.ownBlock] at e, fun k (e : k = B) => by rw [e]; exact heap_lt hB, by simp⟩, World.ownsRow_nil _ _ _ _, ?_, ?_, rfl, ?_, World.ownsRow_nil _ _ _ _, ?_, ?_, ?_, ?_, ?_, ?_, ?_⟩, ?_⟩
  · exact ⟨fun i o hi => by simp at hi, rfl, fun i B1 hi => by simp at hi, fun i hi => by simp at hi, fun _ _ _ _ hf => hf.elim, fun _ _ _ hf => hf, fun _ _ hf => hf.elim⟩
  · exact ni0
  · rfl
  · simp
  · show (if C = L then 0 else if C = C then 1 else if C = B then 2 else if C < N then 6 else 7) = 1
    rw [if_neg (by omega), if_pos rfl]
  · intro x (e : x = B)
    show (if x = L then 0 else if x = C then 1 else if x = B then 2 else if x < N then 6 else 7) = 2
    rw [if_neg (by omega), if_neg (by omega), if_pos e]
  · intro g e
    simp [Value.ownBlock] at e
  · intro _ _ hf
    exact hf.elim
  · intro g e
    simp [Value.ownBlock] at e
  · intro x hx
    show (if x = L then 0 else if x = C then 1 else if x = B then 2 else if x < N then 6 else 7) = 6
    rw [if_neg (by omega), if_neg (by omega), if_neg (by omega), if_pos hx]
  · intro x h1 h2
    show (if x = L then 0 else if x = C then 1 else if x = B then 2 else if x < N then 6 else 7) = 7
    rw [if_neg (by omega), if_neg (by omega), if_neg (by omega), if_neg (by omega)]
set_option maxRecDepth 100000 in
set_option maxHeartbeats 1600000 in
theorem rlnew_yes (T M : Int) (ps : List (List OpD)) (pl dr : List Int) (pa la da : Option Addr) (pc lc dc N : Nat) (w0 w : World) (hS0 : Sh.SAt w0 ⟨T, M, ps, pl, dr⟩ pa la da) (b0 : Below w0.heap.size w0 w) (hN : w0.heap.size ≤ N) (hN2 : N ≤ w.heap.size) (hx : Sh.schk ⟨T, M, ps, pl, dr⟩ = 0) :
    Calls Tryz.prog 11 #[.agg #[.int .i64 T, .int .i64 M, .slice pa ps.length pc, .slice la pl.length lc, .slice da dr.length dc]] w fun r w' => ∃ L col, r = .returned (.tuple #[.pointer (some ⟨L, 0, none⟩), .int .i64 0]) ∧ RW w' col L N (newS ⟨T, M, ps, pl, dr⟩) ∧ (∀ x, N ≤ x → x < w.heap.size → col x = 7) ∧ w.heap.size ≤ L ∧ Below w.heap.size w w' := by
  obtain ⟨q1, q2, q3, q4, q5, q6, q7⟩ := schk_ok hx
  simp only at q1 q2 q3 q4 q5 q6 q7
  have hS := hS0.below b0
  have CK := hide (Sh.rscheck_any T M ps pl dr pa la da pc lc dc (w.alloc (.cells #[.int .i64 T, .int .i64 M, .slice pa ps.length pc, .slice la pl.length lc, .slice da dr.length dc] 25)) (hS.below (below_alloc _ _)))
  rw [hx] at CK
  have NE : Pk.ne pl dr = 0 := Pk.ne_0 (by omega) (by omega) ((Pk.ab_iff _ _ _).2 q6) ((Pk.ab_iff _ _ _).2 q7)
  have PN := hide (fun u (hb : Below w.heap.size w u) => Pk.rnew_any la da pl dr lc dc N u (fun h0 a e => Nat.lt_of_lt_of_le (at_lt hS0.pl h0 a e) hN) (fun h0 a e => Nat.lt_of_lt_of_le (at_lt hS0.dr h0 a e) hN) (hS.pl.below hb) (hS.dr.below hb) hS0.h2 hS0.h3)
  have HS0 := hide hS0
  have B0 := hide b0
  have HNE := hide NE
  clear hS hS0 b0 NE
  go_enter Tryz.func11, Tryz.ntmps11
  go_wp2_with fail
  refine CK.out.mono ?_
  rintro r w1 ⟨rfl, b1⟩
  have E1 := hide (heap_below (heap_new w (.cells #[.int .i64 T, .int .i64 M, .slice pa ps.length pc, .slice la pl.length lc, .slice da dr.length dc] 25)) b1)
  have B1 := hide (btr (below_alloc w (.cells #[.int .i64 T, .int .i64 M, .slice pa ps.length pc, .slice la pl.length lc, .slice da dr.length dc] 25)) b1)
  have c3 : w1.cell? ⟨w.heap.size, 3, none⟩ = some (.slice la pl.length lc) := cell_of E1.out 3
  have c4 : w1.cell? ⟨w.heap.size, 4, none⟩ = some (.slice da dr.length dc) := cell_of E1.out 4
  have PN1 := hide (PN.out w1 B1.out)
  clear b1 CK PN
  go_wp2_with fail
  refine PN1.out.mono ?_
  rintro r w2 (⟨e, -, -⟩ | ⟨-, rfl, cu2, b2⟩)
  · exact absurd HNE.out e
  have E2 := hide (heap_below E1.out b2)
  have B2 := hide (btr B1.out b2)
  have CU2 := hide cu2
  have d0 : w2.cell? ⟨w.heap.size, 0, none⟩ = some (.int .i64 T) := cell_of E2.out 0
  have d1 : w2.cell? ⟨w.heap.size, 1, none⟩ = some (.int .i64 M) := cell_of E2.out 1
  have d2 : w2.cell? ⟨w.heap.size, 2, none⟩ = some (.slice pa ps.length pc) := cell_of E2.out 2
  have d3 : w2.cell? ⟨w.heap.size, 3, none⟩ = some (.slice la pl.length lc) := cell_of E2.out 3
  have d4 : w2.cell? ⟨w.heap.size, 4, none⟩ = some (.slice da dr.length dc) := cell_of E2.out 4
  have s1 := B1.out.size
  have s2 : w1.heap.size < w2.heap.size := rcur_lt cu2
  clear b2 cu2 PN1 c3 c4
  have VL := hide (En.heap_new2 w2 (.cells #[.slice none 0 0] 59) (.cells #[.int .i64 T, .int .i64 M, .slice pa ps.length pc, .slice la pl.length lc, .slice da dr.length dc, .pointer (some ⟨w1.heap.size, 0, none⟩), .pointer (some ⟨w2.heap.size, 0, none⟩), .slice none 0 0, .int .i64 0, .int .i64 0, .int .i64 0, .int .i64 0, .int .i64 0, .int .i64 0, .int .i64 0, .int .i64 0, .slice none 0 0, .bool false] 55))
  have VB := hide (heap_below (heap_new w2 (.cells #[.slice none 0 0] 59)) (below_alloc _ (.cells #[.int .i64 T, .int .i64 M, .slice pa ps.length pc, .slice la pl.length lc, .slice da dr.length dc, .pointer (some ⟨w1.heap.size, 0, none⟩), .pointer (some ⟨w2.heap.size, 0, none⟩), .slice none 0 0, .int .i64 0, .int .i64 0, .int .i64 0, .int .i64 0, .int .i64 0, .int .i64 0, .int .i64 0, .int .i64 0, .slice none 0 0, .bool false] 55)))
  have BF := hide (btr (below_alloc w2 (.cells #[.slice none 0 0] 59)) (below_alloc _ (.cells #[.int .i64 T, .int .i64 M, .slice pa ps.length pc, .slice la pl.length lc, .slice da dr.length dc, .pointer (some ⟨w1.heap.size, 0, none⟩), .pointer (some ⟨w2.heap.size, 0, none⟩), .slice none 0 0, .int .i64 0, .int .i64 0, .int .i64 0, .int .i64 0, .int .i64 0, .int .i64 0, .int .i64 0, .int .i64 0, .slice none 0 0, .bool false] 55)))
  go_wp2_with fail
  have o3 : w2.heap.size < w2.heap.size + 1 := by omega
  have o4 := heap_lt VL.out
  clear d0 d1 d2 d3 d4
  generalize (w2.alloc (.cells #[.slice none 0 0] 59)).alloc (.cells #[.int .i64 T, .int .i64 M, .slice pa ps.length pc, .slice la pl.length lc, .slice da dr.length dc, .pointer (some ⟨w1.heap.size, 0, none⟩), .pointer (some ⟨w2.heap.size, 0, none⟩), .slice none 0 0, .int .i64 0, .int .i64 0, .int .i64 0, .int .i64 0, .int .i64 0, .int .i64 0, .int .i64 0, .int .i64 0, .slice none 0 0, .bool false] 55) = w3 at *
  generalize w2.heap.size + 1 = L at *
  have hwL : w.heap.size ≤ L := by omega
  go_loopw [8] (fun iv wr => ∃ i : Nat, i ≤ 8 ∧ iv = .int .i64 i ∧ wr.heap[L]? = some (.cells (rcs ⟨T, M, la, pl.length, lc, da, dr.length, dc⟩ pa ps.length pc w1.heap.size w2.heap.size none 0 0 (nmI i) none 0 0 false) 55 (0, 0)) ∧ KB L w3 wr) (fun iv _ => 8 - (intOf iv).toNat)
  case atStart => exact ⟨0, by omega, rfl, VL.out.trans rfl, KB.refl _ _⟩
  case round =>
    obtain ⟨i, hi, rfl, hlr, hkr⟩ := hrel
    have HLR := hide hlr
    have HKR := hide hkr
    clear hlr hkr
    by_cases hlt : i < 8
    · have hlt' : (i : Int) < 8 := by omega
      have hi0 : (0 : Int) ≤ (i : Int) := by omega
      have x0 : wr.cell? ⟨L, 8 + i, none⟩ = some (.int .i64 (nth (nmI i) i)) := (cell_of HLR.out (8 + i)).trans (rcs_at _ _ _ _ _ _ _ _ _ _ _ _ _ _ hlt)
      have xf : wr.frozen? ⟨L, 8 + i, none⟩ = false := frozen_of HLR.out (8 + i)
      have NX : Hid ((wr.setCell ⟨L, 8 + i, none⟩ (.int .i64 (-1))).heap[L]? = some (.cells (rcs ⟨T, M, la, pl.length, lc, da, dr.length, dc⟩ pa ps.length pc w1.heap.size w2.heap.size none 0 0 (nmI (i + 1)) none 0 0 false) 55 (0, 0))) := by
        show _ = _
        rw [Ba.heap_setCell_same HLR.out, rcs_num _ _ _ _ _ _ _ _ _ _ _ _ _ _ _ _ (nmI_len hi) hlt, nmI_step hlt]
      have KX := hide (HKR.out.setCell (8 + i) (.int .i64 (-1)))
      generalize nth (nmI i) i = z at x0
      go_wp2_with fail
      go_roundw
      case rel => exact ⟨i + 1, by omega, by go_num, NX.out, KX.out⟩
      case measure => simp [intOf]; omega
    · have hlt' : decide ((i : Int) < 8) = false := decide_eq_false (by omega)
      have HL8 : Hid (wr.heap[L]? = some (.cells (rcs ⟨T, M, la, pl.length, lc, da, dr.length, dc⟩ pa ps.length pc w1.heap.size w2.heap.size none 0 0 (nmI 8) none 0 0 false) 55 (0, 0))) := by
        have := HLR.out
        have e : i = 8 := by omega
        rw [e] at this
        exact this
      have BW : Hid (Below w.heap.size w wr) := below_kb (btr B2.out BF.out) HKR.out hwL (btr B2.out BF.out).size
      have hB := HKR.out.heap VB.out (by omega)
      have hcu := (CU2.out.below BF.out).kb HKR.out (by omega) (by omega)
      have b00 : Below w0.heap.size w0 wr := ⟨BW.out.os.trans B0.out.os, BW.out.tape.trans B0.out.tape, BW.out.output.trans B0.out.output, Nat.le_trans B0.out.size BW.out.size, fun x hx => (BW.out.block x (Nat.lt_of_lt_of_le hx B0.out.size)).trans (B0.out.block x hx)⟩
      obtain ⟨col, hrx, h7⟩ := rl_rx HL8.out hB hcu (by omega) s2 o3 b00 hN HS0.out.ps
      have HRX := hide hrx
      have H7 := hide h7
      have SP := hide (Cr.rspawn_any w2.heap.size _ [] 0 wr hrx.cr)
      have y6 := cell_of hrx.hp 6
      simp [rcs] at y6
      clear hrx h7 hB hcu b00 HLR HKR HL8 VL VB
      go_wp2_with fail
      refine SP.out.mono ?_
      rintro r w5 ⟨rfl, p5⟩
      obtain ⟨FB5, col5, h5, t5⟩ := HRX.out.crew p5
      have H5 := hide h5
      have T5 := hide t5
      clear h5 t5 p5 SP y6
      go_wp2_with fail
      go_ret2
      have c7 : ∀ x, x < w.heap.size → 6 ≤ col x := fun x hx => by
        rcases Nat.lt_or_ge x N with q | q
        · rw [HRX.out.c6 x q]
          omega
        · rw [H7.out x q (by omega)]
          omega
      refine ⟨L, col5, rfl, H5.out.lw, fun x h1 h2 => ?_, hwL, ⟨T5.out.os.trans BW.out.os, T5.out.tape.trans BW.out.tape, T5.out.output.trans BW.out.output, Nat.le_trans BW.out.size T5.out.size, fun x hx => (T5.out.block x (Nat.lt_of_lt_of_le hx BW.out.size) (c7 x hx)).trans (BW.out.block x hx)⟩⟩
      exact (T5.out.old x (Nat.lt_of_lt_of_le h2 BW.out.size) (c7 x h2)).trans (H7.out x h1 (by omega))
/-! ### Run -/
theorem WB.steps {sc : Sh.Sc} (hs : Sh.schk sc = 0) : ∀ n, WB (stepsF n (newS sc))
  | 0 => WB.new sc
  | n + 1 => by
    obtain ⟨k, -, i, -⟩ := Inv.steps hs n
    rw [steps_succ]
    exact (WB.steps hs n).step hs i
end Rlo
end Go.Proofs.YtddchcekljndmaaGreat
/- The laws' own hands(), over this seat's program. -/
namespace Go.Proofs.YtddchcekljndmaaGreat
open Go.ChangeShapes Go.WideShapes Go.ChangeAt Go.RowKit
namespace Lo
open Ba

def psH : List (List OpD) := [[⟨2, 0, 0, [], false⟩, ⟨1, 1, 0, [], false⟩, ⟨4, 0, 0, [], false⟩], [⟨3, 0, 5, [], false⟩]]
def scH : Sh.Sc := ⟨9, 9, psH, [0, 0, 0, 0], []⟩
theorem scH_chk : Sh.schk ⟨9, 9, psH, [0, 0, 0, 0], []⟩ = 0 := by decide
def trH : List Ev := [⟨2, 0, 0, -1, 0, -1, false, false⟩, ⟨1, 0, -1, -1, 1, 1, false, false⟩, ⟨6, 0, 0, -1, 0, -1, false, false⟩, ⟨3, 1, 0, -1, 5, 0, true, false⟩, ⟨7, 0, 0, -1, 5, 1, false, true⟩]
theorem scH_run : (runF ⟨9, 9, psH, [0, 0, 0, 0], []⟩).tr = trH ∧ verd (runF ⟨9, 9, psH, [0, 0, 0, 0], []⟩) = 4 := ⟨by rfl, by rfl⟩
theorem wh_at (w : World) : Sh.SAt ((((w.alloc (.cells #[.int .i64 2, .int .i64 0, .int .i64 0, .slice none 0 0, .bool false, .int .i64 1, .int .i64 1, .int .i64 0, .slice none 0 0, .bool false, .int .i64 4, .int .i64 0, .int .i64 0, .slice none 0 0, .bool false] 44)).alloc (.cells #[.int .i64 3, .int .i64 0, .int .i64 5, .slice none 0 0, .bool false] 44)).alloc (.cells #[.slice (some ⟨w.heap.size, 0, none⟩) 3 3, .slice (some ⟨w.heap.size + 1, 0, none⟩) 1 1] 64)).alloc (.cells #[.int .i64 0, .int .i64 0, .int .i64 0, .int .i64 0] 3)) ⟨9, 9, psH, [0, 0, 0, 0], []⟩ (some ⟨w.heap.size + 1 + 1, 0, none⟩) (some ⟨w.heap.size + 1 + 1 + 1, 0, none⟩) none ∧ Below w.heap.size w ((((w.alloc (.cells #[.int .i64 2, .int .i64 0, .int .i64 0, .slice none 0 0, .bool false, .int .i64 1, .int .i64 1, .int .i64 0, .slice none 0 0, .bool false, .int .i64 4, .int .i64 0, .int .i64 0, .slice none 0 0, .bool false] 44)).alloc (.cells #[.int .i64 3, .int .i64 0, .int .i64 5, .slice none 0 0, .bool false] 44)).alloc (.cells #[.slice (some ⟨w.heap.size, 0, none⟩) 3 3, .slice (some ⟨w.heap.size + 1, 0, none⟩) 1 1] 64)).alloc (.cells #[.int .i64 0, .int .i64 0, .int .i64 0, .int .i64 0] 3)) := by
  have b1 := below_alloc w (.cells #[.int .i64 2, .int .i64 0, .int .i64 0, .slice none 0 0, .bool false, .int .i64 1, .int .i64 1, .int .i64 0, .slice none 0 0, .bool false, .int .i64 4, .int .i64 0, .int .i64 0, .slice none 0 0, .bool false] 44)
  have h1 := heap_new w (.cells #[.int .i64 2, .int .i64 0, .int .i64 0, .slice none 0 0, .bool false, .int .i64 1, .int .i64 1, .int .i64 0, .slice none 0 0, .bool false, .int .i64 4, .int .i64 0, .int .i64 0, .slice none 0 0, .bool false] 44)
  have z1 : (w.alloc (.cells #[.int .i64 2, .int .i64 0, .int .i64 0, .slice none 0 0, .bool false, .int .i64 1, .int .i64 1, .int .i64 0, .slice none 0 0, .bool false, .int .i64 4, .int .i64 0, .int .i64 0, .slice none 0 0, .bool false] 44)).heap.size = w.heap.size + 1 := World.size_alloc ..
  generalize w.alloc (.cells #[.int .i64 2, .int .i64 0, .int .i64 0, .slice none 0 0, .bool false, .int .i64 1, .int .i64 1, .int .i64 0, .slice none 0 0, .bool false, .int .i64 4, .int .i64 0, .int .i64 0, .slice none 0 0, .bool false] 44) = w1 at *
  have b2 := below_alloc w1 (.cells #[.int .i64 3, .int .i64 0, .int .i64 5, .slice none 0 0, .bool false] 44)
  have h2 := heap_new w1 (.cells #[.int .i64 3, .int .i64 0, .int .i64 5, .slice none 0 0, .bool false] 44)
  have z2 : (w1.alloc (.cells #[.int .i64 3, .int .i64 0, .int .i64 5, .slice none 0 0, .bool false] 44)).heap.size = w1.heap.size + 1 := World.size_alloc ..
  generalize w1.alloc (.cells #[.int .i64 3, .int .i64 0, .int .i64 5, .slice none 0 0, .bool false] 44) = w2 at *
  have b3 := below_alloc w2 (.cells #[.slice (some ⟨w.heap.size, 0, none⟩) 3 3, .slice (some ⟨w.heap.size + 1, 0, none⟩) 1 1] 64)
  have h3 := heap_new w2 (.cells #[.slice (some ⟨w.heap.size, 0, none⟩) 3 3, .slice (some ⟨w.heap.size + 1, 0, none⟩) 1 1] 64)
  have z3 : (w2.alloc (.cells #[.slice (some ⟨w.heap.size, 0, none⟩) 3 3, .slice (some ⟨w.heap.size + 1, 0, none⟩) 1 1] 64)).heap.size = w2.heap.size + 1 := World.size_alloc ..
  generalize w2.alloc (.cells #[.slice (some ⟨w.heap.size, 0, none⟩) 3 3, .slice (some ⟨w.heap.size + 1, 0, none⟩) 1 1] 64) = w3 at *
  have b4 := below_alloc w3 (.cells #[.int .i64 0, .int .i64 0, .int .i64 0, .int .i64 0] 3)
  have h4 := heap_new w3 (.cells #[.int .i64 0, .int .i64 0, .int .i64 0, .int .i64 0] 3)
  generalize w3.alloc (.cells #[.int .i64 0, .int .i64 0, .int .i64 0, .int .i64 0] 3) = w4 at *
  rw [z3, z2, z1] at h4
  rw [z2, z1] at h3
  rw [z1] at h2
  have g1 := heap_below (heap_below (heap_below h1 b2) b3) b4
  have g2 := heap_below (heap_below h2 b3) b4
  have g3 := heap_below h3 b4
  refine ⟨⟨?_, ?_, fun k hk => absurd hk (Nat.not_lt_zero _), by decide, by decide, by decide⟩, btr (btr (btr b1 b2) b3) b4⟩
  · intro k q hq
    match k, hq with
    | 0, hq =>
      obtain rfl : q = [⟨2, 0, 0, [], false⟩, ⟨1, 1, 0, [], false⟩, ⟨4, 0, 0, [], false⟩] := by simpa [psH] using hq.symm
      refine ⟨_, _, _, 3, rfl, cell_of g3 0, ?_, by decide⟩
      intro j o ho
      match j, ho with
      | 0, ho =>
        obtain rfl : o = ⟨2, 0, 0, [], false⟩ := by simpa using ho.symm
        exact ⟨_, _, none, 0, rfl, ⟨cell_of g1 0, cell_of g1 1, cell_of g1 2, cell_of g1 3, cell_of g1 4⟩, (fun k x hk => by simp at hk), by decide⟩
      | 1, ho =>
        obtain rfl : o = ⟨1, 1, 0, [], false⟩ := by simpa using ho.symm
        exact ⟨_, _, none, 0, rfl, ⟨cell_of g1 5, cell_of g1 6, cell_of g1 7, cell_of g1 8, cell_of g1 9⟩, (fun k x hk => by simp at hk), by decide⟩
      | 2, ho =>
        obtain rfl : o = ⟨4, 0, 0, [], false⟩ := by simpa using ho.symm
        exact ⟨_, _, none, 0, rfl, ⟨cell_of g1 10, cell_of g1 11, cell_of g1 12, cell_of g1 13, cell_of g1 14⟩, (fun k x hk => by simp at hk), by decide⟩
      | j + 3, ho => simp at ho
    | 1, hq =>
      obtain rfl : q = [⟨3, 0, 5, [], false⟩] := by simpa [psH] using hq.symm
      refine ⟨_, _, _, 1, rfl, cell_of g3 1, ?_, by decide⟩
      intro j o ho
      match j, ho with
      | 0, ho =>
        obtain rfl : o = ⟨3, 0, 5, [], false⟩ := by simpa using ho.symm
        exact ⟨_, _, none, 0, rfl, ⟨cell_of g2 0, cell_of g2 1, cell_of g2 2, cell_of g2 3, cell_of g2 4⟩, (fun k x hk => by simp at hk), by decide⟩
      | j + 1, ho => simp at ho
    | k + 2, hq => simp [psH] at hq
  · intro k hk
    have hk' : k < 4 := hk
    match k, hk' with
    | 0, _ => exact ⟨_, _, rfl, cell_of h4 0⟩
    | 1, _ => exact ⟨_, _, rfl, cell_of h4 1⟩
    | 2, _ => exact ⟨_, _, rfl, cell_of h4 2⟩
    | 3, _ => exact ⟨_, _, rfl, cell_of h4 3⟩
set_option maxRecDepth 100000 in
set_option maxHeartbeats 1600000 in
theorem hands_any (w : World) : Calls Tryz.prog 6 #[] w fun r w' => r = .returned (.bool true) ∧ Below w.heap.size w w' := by
  obtain ⟨S0, B0⟩ := wh_at w
  obtain ⟨R, hR⟩ : ∃ R, runF ⟨9, 9, psH, [0, 0, 0, 0], []⟩ = R := ⟨_, rfl⟩
  obtain ⟨r1, r2⟩ := scH_run
  rw [hR] at r1 r2
  have RN := hide (run_yes 9 9 psH [0, 0, 0, 0] [] _ _ none 2 4 0 _ S0 scH_chk R hR)
  rw [r1, r2] at RN
  have B0 := hide B0
  clear hR r1 r2 S0
  go_enter Tryz.func6, Tryz.ntmps6
  go_wp2_with fail
  refine RN.out.mono ?_
  rintro r w1 ⟨ob, d, rfl, e1, -, b1⟩
  obtain ⟨b, off, rfl, -⟩ := e1 0 _ rfl
  obtain ⟨p20, -⟩ := e1.read (k := 2) rfl
  obtain ⟨p30, -, -, -, -, p35, -⟩ := e1.read (k := 3) rfl
  obtain ⟨p40, -, -, -, p44, -⟩ := e1.read (k := 4) rfl
  have B1 := hide (btr B0.out b1)
  clear e1 b1 RN
  simp only [Nat.reduceMul] at p20 p30 p35 p40 p44
  go_wp2_with fail
  go_ret
  exact ⟨rfl, B1.out⟩
end Lo
end Go.Proofs.YtddchcekljndmaaGreat
/- The laws' own large(), over this seat's program. -/
namespace Go.Proofs.YtddchcekljndmaaGreat
open Go.ChangeShapes Go.WideShapes Go.ChangeAt Go.RowKit
namespace Lo
open Sh De Ba

set_option maxRecDepth 100000 in
set_option maxHeartbeats 3200000 in
theorem large13 (T M : Int) (ps : List (List OpD)) (pl dr : List Int) (pa la da : Option Addr) (pc lc dc : Nat) (w : World) (hS : SAt w ⟨T, M, ps, pl, dr⟩ pa la da) (hB : Held ps) :
    Calls Tryz.prog 5 #[.agg #[.int .i64 T, .int .i64 M, .slice pa ps.length pc, .slice la pl.length lc, .slice da dr.length dc]] w fun r w' => LR ps pl dr r ∧ Below w.heap.size w w' := by
  have S0 := hide (hS.below (below_alloc w (.cells #[.int .i64 T, .int .i64 M, .slice pa ps.length pc, .slice la pl.length lc, .slice da dr.length dc] 25)))
  have B0 := hide (below_alloc w (.cells #[.int .i64 T, .int .i64 M, .slice pa ps.length pc, .slice la pl.length lc, .slice da dr.length dc] 25))
  have X0 := hide (heap_new w (.cells #[.int .i64 T, .int .i64 M, .slice pa ps.length pc, .slice la pl.length lc, .slice da dr.length dc] 25))
  have h1 := hS.h1
  have h2 := hS.h2
  have h3 := hS.h3
  unfold maxLen at h1 h2 h3
  simp only at h1 h2 h3
  have HB := hide hB
  clear hS hB
  by_cases n1 : 20 < ps.length
  · have g1 : decide (20 < (ps.length : Int)) = true := by simp; omega
    go_enter Tryz.func5, Tryz.ntmps5
    go_wp2_with fail
    go_ret
    exact ⟨⟨true, rfl, fun e => by cases e⟩, B0.out⟩
  have g1 : decide (20 < (ps.length : Int)) = false := by simp; omega
  by_cases n2 : 1000 < pl.length
  · have g2 : decide (1000 < (pl.length : Int)) = true := by simp; omega
    go_enter Tryz.func5, Tryz.ntmps5
    go_wp2_with fail
    go_ret
    exact ⟨⟨true, rfl, fun e => by cases e⟩, B0.out⟩
  have g2 : decide (1000 < (pl.length : Int)) = false := by simp; omega
  by_cases n3 : 1000 < dr.length
  · have g3 : decide (1000 < (dr.length : Int)) = true := by simp; omega
    go_enter Tryz.func5, Tryz.ntmps5
    go_wp2_with fail
    go_ret
    exact ⟨⟨true, rfl, fun e => by cases e⟩, B0.out⟩
  have g3 : decide (1000 < (dr.length : Int)) = false := by simp; omega
  go_enter Tryz.func5, Tryz.ntmps5
  go_wp2_with fail
  generalize w.alloc (.cells #[.int .i64 T, .int .i64 M, .slice pa ps.length pc, .slice la pl.length lc, .slice da dr.length dc] 25) = W at S0 B0 X0 ⊢
  obtain ⟨x0, x1, x2, x3, x4⟩ := sc_cells X0.out
  go_loopw [27, 3] (fun i a wr => ∃ (k n : Nat), k ≤ ps.length ∧ i = .int .i64 k ∧ a = .int .i64 n ∧ n ≤ 3000 ∧ (∀ (t : Nat) (q : List OpD), t < k → ps[t]? = some q → q.length ≤ 100 ∧ ∀ o ∈ q, o.cases.length ≤ 3000) ∧ Below W.heap.size W wr) (fun i _ _ => ps.length - (intOf i).toNat)
  case atStart => exact ⟨0, 0, Nat.zero_le _, rfl, rfl, by decide, fun t q ht => absurd ht (Nat.not_lt_zero _), Below.refl _ _⟩
  case round =>
    rename World => w5
    obtain ⟨k, n, hk, rfl, rfl, hn, hall, b5⟩ := hrel
    have HE := hide hall
    have B5 := hide b5
    clear hall b5
    by_cases hlt : k < ps.length
    · have hlt' : (k : Int) < (ps.length : Int) := by omega
      obtain ⟨q, hq⟩ : ∃ q, ps[k]? = some q := ⟨ps[k], by simp [hlt]⟩
      obtain ⟨b, off, qa, qc, e1, c1, hO, m1⟩ := (S0.out.below B5.out).ps k q hq
      subst e1
      have HQ := hide hq
      have HO := hide hO
      unfold maxLen at m1
      clear hq hO
      by_cases hl : 100 < q.length
      · have hl' : decide (100 < (q.length : Int)) = true := by simp; omega
        go_wp2_with fail
        go_ret
        exact ⟨⟨true, rfl, fun e => by cases e⟩, btr B0.out B5.out⟩
      · have hl' : decide (100 < (q.length : Int)) = false := by simp; omega
        go_wp2_with fail
        go_loopw [36, 3] (fun i a wr => ∃ (j m : Nat), j ≤ q.length ∧ i = .int .i64 j ∧ a = .int .i64 m ∧ m ≤ 3000 ∧ (∀ (t : Nat) (o : OpD), t < j → q[t]? = some o → o.cases.length ≤ 3000) ∧ Below w5.heap.size w5 wr) (fun i _ _ => q.length - (intOf i).toNat)
        case atStart => exact ⟨0, n, Nat.zero_le _, rfl, rfl, hn, fun t o ht => absurd ht (Nat.not_lt_zero _), Below.refl _ _⟩
        case round =>
          obtain ⟨j, m, hj, rfl, rfl, hm, hal2, b6⟩ := hrel
          have HF := hide hal2
          have B6 := hide b6
          clear hal2 b6
          by_cases hjl : j < q.length
          · have hjl' : (j : Int) < (q.length : Int) := by omega
            obtain ⟨o, ho⟩ : ∃ o, q[j]? = some o := ⟨q[j], by simp [hjl]⟩
            obtain ⟨b', off', ca, cc, e2, ⟨y0, y1, y2, y3, y4⟩, hC, hM⟩ := (HO.out.below B6.out) j o ho
            subst e2
            have hM2 := HB.out q (List.mem_of_getElem? HQ.out) o (List.mem_of_getElem? ho)
            have HX := hide ho
            clear hM
            have B7 := hide (btr B6.out (below_alloc wr (.cells #[.int .i64 o.kind, .int .i64 o.a, .int .i64 o.b, .slice ca o.cases.length cc, .bool o.def_] 44)))
            clear ho hC
            by_cases hc : 3000 < m + o.cases.length
            · have hc' : decide (3000 < (m : Int) + (o.cases.length : Int)) = true := by simp; omega
              go_wp2_with fail
              go_ret
              exact ⟨⟨true, rfl, fun e => by cases e⟩, btr B0.out (btr B5.out B7.out)⟩
            · have hc' : decide (3000 < (m : Int) + (o.cases.length : Int)) = false := by simp; omega
              go_wp2_with fail
              go_roundw
              case rel => exact ⟨j + 1, m + o.cases.length, by omega, by go_num, by go_num, by omega, fun t x ht hx => by
                by_cases e : t = j
                · subst e; rw [HX.out] at hx; cases hx; omega
                · exact HF.out t x (by omega) hx, B7.out⟩
              case measure => simp [intOf]; omega
          · have hjl' : ¬ ((j : Int) < (q.length : Int)) := by omega
            go_wp2_with fail
            go_roundw
            case rel => exact ⟨k + 1, m, by omega, by go_num, rfl, hm, fun t x ht hx => by
              by_cases e : t = k
              · subst e; rw [HQ.out] at hx; cases hx
                exact ⟨by omega, fun o ho => by
                  obtain ⟨i, hi⟩ := List.mem_iff_getElem?.1 ho
                  exact HF.out i o (by have := (List.getElem?_eq_some_iff.1 hi).1; omega) hi⟩
              · exact HE.out t x (by omega) hx, btr B5.out B6.out⟩
            case measure => simp [intOf]; omega
    · have hlt' : ¬ ((k : Int) < (ps.length : Int)) := by omega
      have SM : Hid (Small ps pl dr) := by
        have key : ∀ q ∈ ps, q.length ≤ 100 ∧ ∀ o ∈ q, o.cases.length ≤ 3000 := fun q hq => by
          obtain ⟨t, ht⟩ := List.mem_iff_getElem?.1 hq
          exact HE.out t q (by have := (List.getElem?_eq_some_iff.1 ht).1; omega) ht
        exact ⟨by omega, fun q hq => (key q hq).1, fun q hq => (key q hq).2, by omega, by omega⟩
      go_wp2_with fail
      go_ret
      exact ⟨⟨false, rfl, fun _ => SM.out⟩, btr B0.out B5.out⟩
end Lo
end Go.Proofs.YtddchcekljndmaaGreat
/- Events, compared, over this seat's program. -/
namespace Go.Proofs.YtddchcekljndmaaGreat
open Go.ChangeShapes Go.WideShapes Go.ChangeAt Go.RowKit
namespace Lo
open Ba En

def evb (a b : En.Ev) : Bool := a.k == b.k && (a.g == b.g && (a.c == b.c && (a.a == b.a && (a.v == b.v && (a.m == b.m && (a.s == b.s && a.o == b.o))))))
theorem evb_iff (a b : En.Ev) : evb a b = true ↔ a = b := by
  obtain ⟨k, g, c, x, v, m, s, o⟩ := a
  obtain ⟨k', g', c', x', v', m', s', o'⟩ := b
  simp [evb]
theorem evb_self (a : En.Ev) : evb a a = true := (evb_iff a a).2 rfl
set_option maxHeartbeats 1600000 in
theorem eqE (a b : En.Ev) (w : World) : (Op.equalIn 10000 66 (evv a) (evv b)).run Tryz.prog w = .ok (evb a b) w := by
  obtain ⟨k, g, c, x, v, m, s, o⟩ := a
  obtain ⟨k', g', c', x', v', m', s', o'⟩ := b
  unfold evv evc evb
  simp only
  cases h0 : (k == k')
  · simp [go_sem, h0]
  cases h1 : (g == g')
  · simp [go_sem, h0, h1]
  cases h2 : (c == c')
  · simp [go_sem, h0, h1, h2]
  cases h3 : (x == x')
  · simp [go_sem, h0, h1, h2, h3]
  cases h4 : (v == v')
  · simp [go_sem, h0, h1, h2, h3, h4]
  cases h5 : (m == m')
  · simp [go_sem, h0, h1, h2, h3, h4, h5]
  cases h6 : (s == s')
  · simp [go_sem, h0, h1, h2, h3, h4, h5, h6]
  cases h7 : (o == o')
  · simp [go_sem, h0, h1, h2, h3, h4, h5, h6, h7]
  · simp [go_sem, h0, h1, h2, h3, h4, h5, h6, h7]
set_option maxRecDepth 100000 in
set_option maxHeartbeats 3200000 in
theorem events_same (oa ob : Option Addr) (l : List En.Ev) (c d : Nat) (w : World) (hA : Lo.EsAt w oa l) (hB : Lo.EsAt w ob l) (hl : l.length ≤ 1000000) :
    Calls Tryz.prog 9 #[.slice oa l.length c, .slice ob l.length d] w fun r w' => r = .returned (.bool true) ∧ Below w.heap.size w w' := by
  have HA := hide hA
  have HB := hide hB
  clear hA hB
  go_enter Tryz.func9, Tryz.ntmps9
  go_wp2_with fail
  go_loopw [8] (fun i wr => ∃ k : Nat, k ≤ l.length ∧ i = .int .i64 k ∧ Below w.heap.size w wr) (fun i _ => l.length - (intOf i).toNat)
  case atStart => exact ⟨0, Nat.zero_le _, rfl, Below.refl _ _⟩
  case round =>
    obtain ⟨k, hk, rfl, hb⟩ := hrel
    have HBB := hide hb
    clear hb
    by_cases hlt : k < l.length
    · have hlt' : (k : Int) < (l.length : Int) := by omega
      have hg : decide ((l.length : Int) ≤ (k : Int)) = false := by simp; omega
      have hgn : decide (l.length ≤ k) = false := by simp; omega
      obtain ⟨x, hx⟩ : ∃ x, l[k]? = some x := ⟨_, List.getElem?_eq_getElem hlt⟩
      obtain ⟨b1, o1, rfl, _⟩ := HA.out k x hx
      obtain ⟨b2, o2, rfl, _⟩ := HB.out k x hx
      obtain ⟨p0, p1, p2, p3, p4, p5, p6, p7⟩ := (HA.out.below HBB.out).read hx
      obtain ⟨q0, q1, q2, q3, q4, q5, q6, q7⟩ := (HB.out.below HBB.out).read hx
      have ee := fun u => eqE x x u
      rw [evb_self] at ee
      unfold evv evc at ee
      clear hx
      go_wp2_with fail
      go_region_held3 (fun w' => w'.cell? ⟨b1, o1 + k * 8, none⟩ = some (.int .i64 x.k) ∧ w'.cell? ⟨b1, o1 + k * 8 + 1, none⟩ = some (.int .i64 x.g) ∧ w'.cell? ⟨b1, o1 + k * 8 + 2, none⟩ = some (.int .i64 x.c) ∧ w'.cell? ⟨b1, o1 + k * 8 + 3, none⟩ = some (.int .i64 x.a) ∧ w'.cell? ⟨b1, o1 + k * 8 + 4, none⟩ = some (.int .i64 x.v) ∧ w'.cell? ⟨b1, o1 + k * 8 + 5, none⟩ = some (.int .i64 x.m) ∧ w'.cell? ⟨b1, o1 + k * 8 + 6, none⟩ = some (.bool x.s) ∧ w'.cell? ⟨b1, o1 + k * 8 + 7, none⟩ = some (.bool x.o) ∧ w'.cell? ⟨b2, o2 + k * 8, none⟩ = some (.int .i64 x.k) ∧ w'.cell? ⟨b2, o2 + k * 8 + 1, none⟩ = some (.int .i64 x.g) ∧ w'.cell? ⟨b2, o2 + k * 8 + 2, none⟩ = some (.int .i64 x.c) ∧ w'.cell? ⟨b2, o2 + k * 8 + 3, none⟩ = some (.int .i64 x.a) ∧ w'.cell? ⟨b2, o2 + k * 8 + 4, none⟩ = some (.int .i64 x.v) ∧ w'.cell? ⟨b2, o2 + k * 8 + 5, none⟩ = some (.int .i64 x.m) ∧ w'.cell? ⟨b2, o2 + k * 8 + 6, none⟩ = some (.bool x.s) ∧ w'.cell? ⟨b2, o2 + k * 8 + 7, none⟩ = some (.bool x.o))
        (first
          | with_reducible assumption
          | go_keep)
        (fail)
      go_wp2_with fail
      go_roundw
      case rel => exact ⟨k + 1, by omega, by go_num, btr HBB.out (bdrew1 _)⟩
      case measure => simp [intOf]; omega
    · have hlt' : ¬ ((k : Int) < (l.length : Int)) := by omega
      go_wp2_with fail
      go_ret
      exact ⟨ret_bool (by simp), HBB.out⟩
end Lo
end Go.Proofs.YtddchcekljndmaaGreat
