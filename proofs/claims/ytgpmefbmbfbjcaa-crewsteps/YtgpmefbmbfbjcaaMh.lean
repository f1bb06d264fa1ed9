/- The steps of layer 11's laws, opened. -/
import Derived.Test.YtgpmefbmbfbjcaaMg
namespace Go.Proofs.Ytgpmefbmbfbjcaa
open Go.ChangeShapes Go.WideShapes Go.ChangeAt Go.RowKit
namespace Cr
open Ba

theorem cells_step : Try.prog.cellsOf 31 = 2 := by kernel_rfl
theorem fields2 : ∃ fs : Array Field, Try.prog.underlying 31 = some (.struct fs) ∧ fs.size = 2 ∧ (∃ f, fs[0]? = some f ∧ f.offset = 0 ∧ f.type = 3) ∧ (∃ f, fs[1]? = some f ∧ f.offset = 1 ∧ f.type = 3) :=
  ⟨_, Try.underlying31, rfl, ⟨_, rfl, rfl, rfl⟩, ⟨_, rfl, rfl, rfl⟩⟩
section
variable {H : Type} {enc : TypeId × Value → H} {w : World}
theorem step_open (n : Nat) (cs : List Value) (x : DataW H × List MemPlace) (h : DataW.trod enc Try.prog w 0 (fun _ => true) true n 31 cs = some x) : ∃ z : List Int, ∀ j, j < 2 → cs[j]? = some (.int .i64 (nth z j)) := by
  obtain ⟨fs, hu, hsz, field0, field1⟩ := fields2
  obtain ⟨xs, k, _, _, _, hxl, hff⟩ := DataW.trod_struct hu h
  rw [hsz] at hxl
  obtain ⟨f0, g0, o0, t0⟩ := field0
  have h0 := hff 0 f0 g0
  rw [o0, t0, cells_int] at h0
  obtain ⟨f1, g1, o1, t1⟩ := field1
  have h1 := hff 1 f1 g1
  rw [o1, t1, cells_int] at h1
  rw [List.getElem?_eq_getElem (by omega)] at h0 h1
  obtain ⟨a, ha, _⟩ := DataW.trod_int Try.underlying3 h0
  obtain ⟨b, hb, _⟩ := DataW.trod_int Try.underlying3 h1
  refine ⟨[a, b], fun j hj => ?_⟩
  match j, hj with
  | 0, _ => exact one_of ha
  | 1, _ => exact one_of hb
theorem steps_open {n : Nat} {oa : Option Addr} {len cap : Nat} {x : DataW H × List MemPlace} (h : DataW.trod enc Try.prog w 0 (fun _ => true) true n 22 [.slice oa len cap] = some x) : ∃ l : List (List Int), l.length = len ∧ RAt w oa 2 l ∧ len ≤ cap ∧ cap ≤ maxLen :=
  recs_open Try.underlying22 (by decide) cells_step step_open h
end
/-! ### what steps keep -/
theorem gt_set {l : List Mb} {h g : Int} {x y : Mb} (hx : gt l h = some x) : gt (l.set h.toNat y) g = if h = g then some y else gt l g := by
  obtain ⟨k, rfl, hk, _⟩ := gt_some hx
  rw [Int.toNat_natCast]
  unfold gt
  by_cases hg : g < 0
  · rw [if_pos hg, if_neg (by omega), if_pos hg]
  · rw [if_neg hg, List.getElem?_set]
    by_cases e : k = g.toNat
    · rw [if_pos e, if_pos hk, if_pos (by omega)]
    · rw [if_neg e, if_neg (by omega), if_neg hg]
theorem gt_app {l : List Mb} {g : Int} {y : Mb} : gt (l ++ [y]) g = if g = l.length then some y else gt l g := by
  unfold gt
  by_cases hg : g < 0
  · rw [if_pos hg, if_neg (by omega), if_pos hg]
  · rw [if_neg hg, if_neg hg]
    by_cases e : g = l.length
    · rw [if_pos e, show g.toNat = l.length by omega]
      simp
    · rw [if_neg e]
      by_cases h : g.toNat < l.length
      · rw [List.getElem?_append_left h]
      · rw [List.getElem?_append_right (by omega), List.getElem?_eq_none (by simp; omega), List.getElem?_eq_none (by omega)]
theorem gt_len (l : List Mb) : gt l l.length = none := gt_out (.inr (Int.le_refl _))
/-- g's place -/
def pq (l : List Mb) (g : Int) : Int := (one0 (gt l g)).q
theorem sp_q (l : List Mb) (p g : Int) : pq (spL l p) g = pq l g := by
  unfold spL pq
  split
  · rfl
  split
  · rfl
  rw [gt_app]
  split
  · rename_i h
    rw [h, gt_len]
    rfl
  · rfl
theorem ch_q (l : List Mb) (h a b d g : Int) : pq (chL l h a b d) g = pq l g + if chE l h a = 0 ∧ h = g then d else 0 := by
  cases hh : gt l h with
  | none => simp [chL, chE, hh]
  | some x =>
    by_cases hs : x.s = a
    · have e1 : chE l h a = 0 := by unfold chE; rw [hh]; simp [hs]
      have e2 : chL l h a b d = l.set h.toNat ⟨x.p, x.q + d, b⟩ := by unfold chL; rw [hh]; simp [hs]
      rw [e1, e2]
      unfold pq
      rw [gt_set hh]
      by_cases e : h = g
      · rw [if_pos e, if_pos ⟨rfl, e⟩, ← e, hh]
        rfl
      · rw [if_neg e, if_neg (fun q => e q.2), Int.add_zero]
    · have e1 : chE l h a = 7 := by unfold chE; rw [hh]; simp [hs]
      have e2 : chL l h a b d = l := by unfold chL; rw [hh]; simp [hs]
      rw [e1, e2, if_neg (fun q => by simp at q), Int.add_zero]
theorem pq_none {l : List Mb} {g : Int} (h : thr l g = false) : pq l g = 0 := by
  unfold thr at h
  unfold pq
  cases hg : gt l g with
  | none => rfl
  | some x => rw [hg] at h; cases h
theorem pq_b {K : Nat} {l : List Mb} (h : Bn K l) (g : Int) : 0 ≤ pq l g ∧ pq l g ≤ K := by
  unfold pq
  cases hg : gt l g with
  | none => exact ⟨Int.le_refl _, Int.natCast_nonneg _⟩
  | some x => exact (h.gt hg).1
/-- g's state -/
def ps (l : List Mb) (g : Int) : Int := (one0 (gt l g)).s
theorem ps_b {K : Nat} {l : List Mb} (h : Bn K l) (g : Int) : 0 ≤ ps l g ∧ ps l g ≤ 2 := by
  unfold ps
  cases hg : gt l g with
  | none => exact ⟨Int.le_refl _, by decide⟩
  | some x => exact (h.gt hg).2
/-- g exited -/
def exB (l : List Mb) (g : Int) : Bool := thr l g && (ps l g == 2)
theorem exB_some {l : List Mb} {g : Int} (h : exB l g = true) : ∃ x, gt l g = some x ∧ x.s = 2 := by
  unfold exB thr ps at h
  cases hg : gt l g with
  | none => rw [hg] at h; cases h
  | some x =>
    rw [hg] at h
    simp [one0] at h
    exact ⟨x, rfl, h⟩
theorem exB_of {l : List Mb} {g : Int} {x : Mb} (h : gt l g = some x) (hs : x.s = 2) : exB l g = true := by
  unfold exB thr ps
  rw [h]
  simp [one0, hs]
theorem sp_ex (l : List Mb) (p g : Int) (h : exB l g = true) : exB (spL l p) g = true := by
  obtain ⟨x, hx, hs⟩ := exB_some h
  unfold spL
  split
  · exact h
  split
  · exact h
  refine exB_of (x := x) ?_ hs
  rw [gt_app, if_neg, hx]
  intro e
  rw [e, gt_len] at hx
  cases hx
theorem ch_ex (l : List Mb) (p a b d g : Int) (ha : a ≠ 2) (h : exB l g = true) : exB (chL l p a b d) g = true := by
  obtain ⟨x, hx, hs⟩ := exB_some h
  unfold chL
  cases hp : gt l p with
  | none => exact h
  | some y =>
    simp only
    by_cases hy : y.s = a
    · rw [if_pos hy]
      refine exB_of (x := x) ?_ hs
      rw [gt_set hp, if_neg, hx]
      intro e
      rw [e, hx] at hp
      cases hp
      exact ha (hy.symm.trans hs)
    · rw [if_neg hy]
      exact h
theorem st_ex (l : List Mb) (what p g : Int) (h : exB l g = true) : exB (stL what p l) g = true := by
  unfold stL
  split
  · exact sp_ex l p g h
  split
  · exact sp_ex l p g h
  split
  · exact ch_ex l p 0 0 1 g (by decide) h
  split
  · exact ch_ex l p 0 1 0 g (by decide) h
  split
  · exact ch_ex l p 1 0 1 g (by decide) h
  split
  · exact ch_ex l p 0 2 0 g (by decide) h
  · exact h
theorem ch_le (l : List Mb) (p a b d g : Int) (hd : 0 ≤ d) : pq l g ≤ pq (chL l p a b d) g := by
  rw [ch_q]
  split <;> omega
theorem st_q (l : List Mb) (what p g : Int) : pq l g ≤ pq (stL what p l) g := by
  unfold stL
  split
  · rw [sp_q]; exact Int.le_refl _
  split
  · rw [sp_q]; exact Int.le_refl _
  split
  · exact ch_le l p 0 0 1 g (by decide)
  split
  · exact ch_le l p 0 1 0 g (by decide)
  split
  · exact ch_le l p 1 0 1 g (by decide)
  split
  · exact ch_le l p 0 2 0 g (by decide)
  · exact Int.le_refl _
/-- all may run -/
def Az (l : List Mb) : Prop := ∀ x ∈ l, x.s = 0
theorem ablF_all : ∀ (k : Nat) (l : List Mb), Az l → (ablF k l).length = l.length
  | _, [], _ => rfl
  | k, x :: l, h => by
    have h1 := ablF_all (k + 1) l fun y hy => h y (List.mem_cons_of_mem _ hy)
    simp only [ablF]
    rw [if_pos (h x (List.mem_cons_self ..))]
    simp [h1]
theorem Az.app {l : List Mb} (h : Az l) (p : Int) : Az (l ++ [⟨p, 0, 0⟩]) := by
  intro x hx
  rcases List.mem_append.1 hx with q | q
  · exact h x q
  · simp at q
    subst q
    rfl
theorem sp_ok {l : List Mb} {p : Int} (hp : 0 ≤ p) (hl : l.length < 512) : spV l p = l.length ∧ spE l p = 0 ∧ spL l p = l ++ [⟨p, 0, 0⟩] := by
  unfold spV spE spL
  rw [if_neg (by omega), if_neg (by omega), if_neg (by omega), if_neg (by omega), if_neg (by omega), if_neg (by omega)]
  exact ⟨rfl, rfl, rfl⟩
theorem sp_full {l : List Mb} (hl : l.length = 512) : spV l 0 = 0 ∧ spE l 0 = 5 ∧ spL l 0 = l := by
  unfold spV spE spL
  rw [if_neg (by omega), if_pos (by omega), if_neg (by omega), if_pos (by omega), if_neg (by omega), if_pos (by omega)]
  exact ⟨rfl, rfl, rfl⟩
theorem exB_nil (g : Int) : exB [] g = false := by
  unfold exB thr gt
  split <;> rfl
theorem pq_nil (g : Int) : pq [] g = 0 := by
  unfold pq gt
  split <;> rfl
/-- the laws' beginning: both crews are new -/
theorem td0 {w w1 : World} (p : PC w1 w.heap.size (fun k => k = w.heap.size) []) (b : Below w.heap.size w w1) : Td w (w1.alloc (.cells #[.slice none 0 0] 29)) w.heap.size (fun k => k = w.heap.size) w1.heap.size (fun k => k = w1.heap.size) [] [] := by
  have hs := World.size_alloc w1 (.cells #[.slice none 0 0] 29)
  have hl := p.lt
  exact ⟨p.below (below_alloc _ _), ⟨none, 0, heap_new _ _, World.ownsRow_nil _ _ _ _, rfl, fun g e => by simp [Value.ownBlock] at e, fun k (e : k = _) => by rw [hs]; omega, by simp⟩, btr b (below_alloc _ _), fun x (e : x = _) => by omega, fun x (e : x = _) => by omega, fun x (e : x = _) (f : x = _) => by omega⟩
end Cr
end Go.Proofs.Ytgpmefbmbfbjcaa
