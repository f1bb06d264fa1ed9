import Derived.Test.YtddchcekljndmaaGreatZjLr12
import Derived.Lib.Slices
import Derived.Deep.RegionHeld3
import Derived.SizedLaws
/- Package sheet: Copy, over this seat's program. -/
namespace Go.Proofs.YtddchcekljndmaaGreat
open Go.ChangeShapes Go.WideShapes Go.ChangeAt Go.RowKit
namespace Sh
open De Ba Re

/-- a copied program's row: of the first k operations the cases are copied, too -/
def OM (w : World) (N0 g k : Nat) (l : List OpD) : Prop :=
  ∀ (t : Nat) (o : OpD), l[t]? = some o → ∃ ca cc, (w.cell? ⟨g, t * 5, none⟩ = some (.int .i64 o.kind) ∧ w.cell? ⟨g, t * 5 + 1, none⟩ = some (.int .i64 o.a) ∧ w.cell? ⟨g, t * 5 + 2, none⟩ = some (.int .i64 o.b) ∧ w.cell? ⟨g, t * 5 + 3, none⟩ = some (.slice ca o.cases.length cc) ∧ w.cell? ⟨g, t * 5 + 4, none⟩ = some (.bool o.def_)) ∧ CAt w ca o.cases ∧ (t < k → ∀ a, ca = some a → g + 1 ≤ a.block) ∧ (¬ t < k → ∀ a, ca = some a → o.cases ≠ [] → a.block < N0) ∧ o.cases.length ≤ 3000
theorem cat_lt {w : World} {oa : Option Addr} {l : List Cs} (h : CAt w oa l) (hl : l ≠ []) (a : Addr) (e : oa = some a) : a.block < w.heap.size := by
  cases l with
  | nil => exact absurd rfl hl
  | cons x t =>
    obtain ⟨b, off, rfl, h1, _⟩ := h 0 x rfl
    cases e
    exact World.block_lt_of_cell? w _ h1
theorem cat_kb' {R : Nat} {w w' : World} {oa : Option Addr} {l : List Cs} (k : De.KB R w w') (h : CAt w oa l) (hb : ∀ a, oa = some a → l ≠ [] → a.block ≠ R) : CAt w' oa l := by
  intro j x hj
  obtain ⟨b, off, rfl, h1, h2, h3⟩ := h j x hj
  have hne : l ≠ [] := by
    rintro rfl
    simp at hj
  exact ⟨b, off, rfl, kb_cell k h1 (hb _ rfl hne), kb_cell k h2 (hb _ rfl hne), kb_cell k h3 (hb _ rfl hne)⟩
theorem OM.start {w wr : World} {oa : Option Addr} {q : List OpD} {cs : List Value} (hO : OAt w oa q) (hb : Below w.heap.size w wr) (hl : cs.length = q.length * 5) (hA : CsAt wr oa cs) (h3 : ∀ o ∈ q, o.cases.length ≤ 3000) : OM (wr.alloc (.cells cs.toArray 44)) w.heap.size wr.heap.size 0 q := by
  intro t o ht
  obtain ⟨b, off, ca, cc, rfl, ⟨q0, q1, q2, q3, q4⟩, hC, _⟩ := hO t o ht
  have htl := (List.getElem?_eq_some_iff.1 ht).1
  refine ⟨ca, cc, ⟨?_, ?_, ?_, ?_, ?_⟩, (hC.below hb).below (below_alloc _ _), fun h => absurd h (Nat.not_lt_zero _), fun _ a e hne => cat_lt hC hne a e, h3 o (List.mem_of_getElem? ht)⟩
  · rw [row_cell]; exact cs_get hA (by omega) (cellB q0 hb)
  · rw [row_cell]; exact cs_get hA (by omega) (by rw [← Nat.add_assoc]; exact cellB q1 hb)
  · rw [row_cell]; exact cs_get hA (by omega) (by rw [← Nat.add_assoc]; exact cellB q2 hb)
  · rw [row_cell]; exact cs_get hA (by omega) (by rw [← Nat.add_assoc]; exact cellB q3 hb)
  · rw [row_cell]; exact cs_get hA (by omega) (by rw [← Nat.add_assoc]; exact cellB q4 hb)
theorem OM.below {w w' : World} {N0 g k : Nat} {l : List OpD} (h : OM w N0 g k l) (hb : Below w.heap.size w w') : OM w' N0 g k l := by
  intro t o ht
  obtain ⟨ca, cc, ⟨q0, q1, q2, q3, q4⟩, hC, h1, h2, h3⟩ := h t o ht
  exact ⟨ca, cc, ⟨cellB q0 hb, cellB q1 hb, cellB q2 hb, cellB q3 hb, cellB q4 hb⟩, hC.below hb, h1, h2, h3⟩
theorem OM.step {w : World} {N0 g k : Nat} {l : List OpD} {o : OpD} (h : OM w N0 g k l) (hN : N0 ≤ g) (ho : l[k]? = some o) (ca : Addr) (cc : Nat) (hC : CAt w (some ca) o.cases) (hg : g + 1 ≤ ca.block) : OM (w.setCell ⟨g, k * 5 + 3, none⟩ (.slice (some ca) o.cases.length cc)) N0 g (k + 1) l := by
  have KG := (De.KB.refl g w).setCell (k * 5 + 3) (.slice (some ca) o.cases.length cc)
  have far : ∀ i v, i ≠ k * 5 + 3 → w.cell? ⟨g, i, none⟩ = some v → (w.setCell ⟨g, k * 5 + 3, none⟩ (.slice (some ca) o.cases.length cc)).cell? ⟨g, i, none⟩ = some v := fun i v hi hv => by
    exact (World.cell?_setCell_other w ⟨g, k * 5 + 3, none⟩ ⟨g, i, none⟩ _ (by intro e; injection e; omega)).trans hv
  intro t x ht
  obtain ⟨ca', cc', ⟨q0, q1, q2, q3, q4⟩, hC', h1, h2, h3⟩ := h t x ht
  by_cases e : t = k
  · subst e
    rw [ho] at ht
    cases ht
    exact ⟨some ca, cc, ⟨far _ _ (by omega) q0, far _ _ (by omega) q1, far _ _ (by omega) q2, World.cell?_setCell_same _ _ _ q3, far _ _ (by omega) q4⟩, cat_kb KG hC (fun a e => by cases e; omega), fun _ a e => by cases e; exact hg, fun hlt => absurd (Nat.lt_succ_self _) hlt, h3⟩
  · refine ⟨ca', cc', ⟨far _ _ (by omega) q0, far _ _ (by omega) q1, far _ _ (by omega) q2, far _ _ (by omega) q3, far _ _ (by omega) q4⟩, cat_kb' KG hC' ?_, fun hlt => h1 (by omega), fun hlt => h2 (by omega), h3⟩
    intro a ea hne
    by_cases ht2 : t < k
    · have := h1 ht2 a ea; omega
    · have := h2 ht2 a ea hne; omega
theorem OM.done {w : World} {N0 g k : Nat} {l : List OpD} (h : OM w N0 g k l) (hk : l.length ≤ k) : OF w (g + 1) g l := by
  intro t o ht
  obtain ⟨ca, cc, hq, hC, h1, _, h3⟩ := h t o ht
  have htl := (List.getElem?_eq_some_iff.1 ht).1
  exact ⟨ca, cc, hq, hC, h1 (by omega), h3⟩

/-- programs being copied: the first k are, of the others the row still has the old ones -/
def PM (w0 w : World) (N k : Nat) (arr : Array Value) (ps : List (List OpD)) : Prop :=
  PF w N arr (ps.take k) ∧ ∀ (t : Nat) (q : List OpD), k ≤ t → ps[t]? = some q → ∃ pa pc, arr[t]? = some (.slice pa q.length pc) ∧ OAt w0 pa q
theorem PF.below {w w' : World} {N : Nat} {arr : Array Value} {ps : List (List OpD)} (h : PF w N arr ps) (hb : Below w.heap.size w w') (hN : 0 < N) : PF w' N arr ps := h.kb (De.KB.of (R := 0) hb) hN
theorem PM.start {w wr : World} {oa : Option Addr} {ps : List (List OpD)} {cs : List Value} (hP : PAt w oa ps) (hb : Below w.heap.size w wr) (hl : cs.length = ps.length) (hA : CsAt wr oa cs) (W : World) (N : Nat) : PM w W N 0 cs.toArray ps := by
  refine ⟨fun t q ht => by simp at ht, fun t q _ ht => ?_⟩
  obtain ⟨b, off, pa, pc, rfl, h0, h1, _⟩ := hP t q ht
  have htl := (List.getElem?_eq_some_iff.1 ht).1
  exact ⟨pa, pc, by rw [List.getElem?_toArray]; exact cs_get hA (by omega) (cellB h0 hb), h1⟩
theorem PM.step {w0 w : World} {N k : Nat} {arr : Array Value} {ps : List (List OpD)} {q : List OpD} (h : PM w0 w N k arr ps) (hq : ps[k]? = some q) (hs : k < arr.size) (g c : Nat) (hof : OF w (g + 1) g q) (hN : N ≤ g) (hl : q.length ≤ 1000) : PM w0 w N (k + 1) (arr.setIfInBounds k (.slice (some ⟨g, 0, none⟩) q.length c)) ps := by
  have hk := (List.getElem?_eq_some_iff.1 hq).1
  refine ⟨?_, fun t x ht hx => ?_⟩
  · rw [List.take_add_one, hq]
    exact h.1.store k (by rw [List.length_take]; omega) hs g c q hof hN hl
  · obtain ⟨pa, pc, h1, h2⟩ := h.2 t x (by omega) hx
    exact ⟨pa, pc, by rw [Array.getElem?_setIfInBounds_ne (by omega)]; exact h1, h2⟩
theorem PM.below {w0 w w' : World} {N k : Nat} {arr : Array Value} {ps : List (List OpD)} (h : PM w0 w N k arr ps) (hb : Below w.heap.size w w') (hN : 0 < N) : PM w0 w' N k arr ps := ⟨h.1.below hb hN, h.2⟩
theorem PM.kb {w0 w w' : World} {N k R : Nat} {arr : Array Value} {ps : List (List OpD)} (h : PM w0 w N k arr ps) (hk : De.KB R w w') (hR : R < N) : PM w0 w' N k arr ps := ⟨h.1.kb hk hR, h.2⟩
theorem PF.mono {w : World} {N N' : Nat} {arr : Array Value} {ps : List (List OpD)} (h : PF w N arr ps) (hN : N' ≤ N) : PF w N' arr ps := by
  intro t q ht
  obtain ⟨g, c, h1, h2, h3, h4⟩ := h t q ht
  exact ⟨g, c, h1, h2, by omega, h4⟩
/-- what Copy keeps: the script boxed at P, the answer's room behind it, the programs at G -/
structure CC (w wr : World) (G : Nat) (v0 v1 v2 v3 v4 : Value) (arr : Array Value) (n : Nat) : Prop where
  bx : wr.heap[w.heap.size]? = some (.cells #[v0, v1, v2, v3, v4] 25 (0, 0))
  zr : wr.heap[w.heap.size + 1]? = some (.cells #[.int .i64 0, .int .i64 0, .slice none 0 0, .slice none 0 0, .slice none 0 0] 25 (0, 0))
  pr : wr.heap[G]? = some (.cells arr 64 (0, 0))
  sz : arr.size = n
  bel : Below w.heap.size w wr
  ne : w.heap.size + 1 < G
theorem CC.below {w wr wr' : World} {G : Nat} {v0 v1 v2 v3 v4 : Value} {arr : Array Value} {n : Nat} (h : CC w wr G v0 v1 v2 v3 v4 arr n) (hb : Below wr.heap.size wr wr') : CC w wr' G v0 v1 v2 v3 v4 arr n :=
  ⟨heap_below h.bx hb, heap_below h.zr hb, heap_below h.pr hb, h.sz, btr h.bel hb, h.ne⟩
theorem CC.other {w wr wr' : World} {G R : Nat} {v0 v1 v2 v3 v4 : Value} {arr : Array Value} {n : Nat} (h : CC w wr G v0 v1 v2 v3 v4 arr n) (k : De.KB R wr wr') (hR : G < R) : CC w wr' G v0 v1 v2 v3 v4 arr n := by
  have hn := h.ne
  exact ⟨k.heap h.bx (by omega), k.heap h.zr (by omega), k.heap h.pr (by omega), h.sz, De.KB.below h.bel k (by omega), hn⟩
theorem CC.store {w wr : World} {G : Nat} {v0 v1 v2 v3 v4 : Value} {arr : Array Value} {n : Nat} (h : CC w wr G v0 v1 v2 v3 v4 arr n) (k : Nat) (v : Value) : CC w (wr.setCell ⟨G, k, none⟩ v) G v0 v1 v2 v3 v4 (arr.setIfInBounds k v) n := by
  have hn := h.ne
  have K := (De.KB.refl G wr).setCell k v
  exact ⟨K.heap h.bx (by omega), K.heap h.zr (by omega), Ba.heap_setCell_same h.pr v, by rw [Array.size_setIfInBounds]; exact h.sz, De.KB.below h.bel K (by omega), hn⟩
theorem CC.box {w wr : World} {G : Nat} {v0 v1 v2 v3 v4 u0 u1 u2 u3 u4 : Value} {arr : Array Value} {n : Nat} (h : CC w wr G v0 v1 v2 v3 v4 arr n) (i : Nat) (v : Value) (he : (#[v0, v1, v2, v3, v4] : Array Value).setIfInBounds i v = #[u0, u1, u2, u3, u4]) : CC w (wr.setCell ⟨w.heap.size, i, none⟩ v) G u0 u1 u2 u3 u4 arr n := by
  have hn := h.ne
  have K := (De.KB.refl w.heap.size wr).setCell i v
  exact ⟨by rw [Ba.heap_setCell_same h.bx, he], K.heap h.zr (by omega), K.heap h.pr (by omega), h.sz, De.KB.below h.bel K (by omega), hn⟩
/-- what is gone through here -/
structure Small (ps : List (List OpD)) (pl dr : List Int) : Prop where
  n : ps.length ≤ 20
  q : ∀ q ∈ ps, q.length ≤ 100
  c : ∀ q ∈ ps, ∀ o ∈ q, o.cases.length ≤ 3000
  p : pl.length ≤ 1000
  d : dr.length ≤ 1000
/-- what Copy answers: the same script, in new blocks -/
def CRes (w : World) (T M : Int) (ps : List (List OpD)) (pl dr : List Int) (r : Ending) (w' : World) : Prop :=
  ∃ G L D arr, r = .returned (.agg #[.int .i64 T, .int .i64 M, .slice (some ⟨G, 0, none⟩) ps.length ps.length, .slice (some ⟨L, 0, none⟩) pl.length pl.length, .slice (some ⟨D, 0, none⟩) dr.length dr.length]) ∧ (w'.heap[G]? = some (.cells arr 64 (0, 0)) ∧ PF w' (w.heap.size + 1) arr ps ∧ w.heap.size < G) ∧ (w'.heap[L]? = some (.cells (row pl) 3 (0, 0)) ∧ G < L) ∧ w'.heap[D]? = some (.cells (row dr) 3 (0, 0)) ∧ L < D

set_option maxRecDepth 100000 in
set_option maxHeartbeats 3200000 in
theorem copy_any (T M : Int) (ps : List (List OpD)) (pl dr : List Int) (pa la da : Option Addr) (pc lc dc : Nat) (w : World) (hS : SAt w ⟨T, M, ps, pl, dr⟩ pa la da) (hm : Small ps pl dr) :
    Calls Tryz.prog 24 #[.agg #[.int .i64 T, .int .i64 M, .slice pa ps.length pc, .slice la pl.length lc, .slice da dr.length dc]] w fun r w' => CRes w T M ps pl dr r w' ∧ Below w.heap.size w w' := by
  have SW := hide hS
  obtain ⟨h20, h100, h3000, hpl, hdr⟩ := hm
  have H100 := hide h100
  have H3 := hide h3000
  have B0 := hide (btr (below_alloc w (.cells #[.int .i64 T, .int .i64 M, .slice pa ps.length pc, .slice la pl.length lc, .slice da dr.length dc] 25)) (below_alloc (w.alloc (.cells #[.int .i64 T, .int .i64 M, .slice pa ps.length pc, .slice la pl.length lc, .slice da dr.length dc] 25)) (.cells #[.int .i64 0, .int .i64 0, .slice none 0 0, .slice none 0 0, .slice none 0 0] 25)))
  have X0 := hide (heap_below (heap_new w (.cells #[.int .i64 T, .int .i64 M, .slice pa ps.length pc, .slice la pl.length lc, .slice da dr.length dc] 25)) (below_alloc (w.alloc (.cells #[.int .i64 T, .int .i64 M, .slice pa ps.length pc, .slice la pl.length lc, .slice da dr.length dc] 25)) (.cells #[.int .i64 0, .int .i64 0, .slice none 0 0, .slice none 0 0, .slice none 0 0] 25)))
  have Z0 : Hid (((w.alloc (.cells #[.int .i64 T, .int .i64 M, .slice pa ps.length pc, .slice la pl.length lc, .slice da dr.length dc] 25)).alloc (.cells #[.int .i64 0, .int .i64 0, .slice none 0 0, .slice none 0 0, .slice none 0 0] 25)).heap[w.heap.size + 1]? = some (.cells #[.int .i64 0, .int .i64 0, .slice none 0 0, .slice none 0 0, .slice none 0 0] 25 (0, 0))) := by
    have := heap_new (w.alloc (.cells #[.int .i64 T, .int .i64 M, .slice pa ps.length pc, .slice la pl.length lc, .slice da dr.length dc] 25)) (.cells #[.int .i64 0, .int .i64 0, .slice none 0 0, .slice none 0 0, .slice none 0 0] 25)
    rw [World.size_alloc] at this
    exact this
  have s0 : ((w.alloc (.cells #[.int .i64 T, .int .i64 M, .slice pa ps.length pc, .slice la pl.length lc, .slice da dr.length dc] 25)).alloc (.cells #[.int .i64 0, .int .i64 0, .slice none 0 0, .slice none 0 0, .slice none 0 0] 25)).heap.size = w.heap.size + 1 + 1 := by rw [World.size_alloc, World.size_alloc]
  have HS0 := hide s0
  obtain ⟨x0, x1, x2, x3, x4⟩ := sc_cells X0.out
  have fz2 := frozen_of X0.out 2
  clear hS h100 h3000 s0
  go_enter Tryz.func24, Tryz.ntmps24
  go_wp2_with fail
  generalize (w.alloc (.cells #[.int .i64 T, .int .i64 M, .slice pa ps.length pc, .slice la pl.length lc, .slice da dr.length dc] 25)).alloc (.cells #[.int .i64 0, .int .i64 0, .slice none 0 0, .slice none 0 0, .slice none 0 0] 25) = W0 at B0 X0 Z0 HS0 x0 x1 x2 x3 x4 fz2 ⊢
  refine (copied_pr pa ps pc _ (SW.out.ps.below B0.out) (by show ps.length ≤ 1000; omega)).mono ?_
  rw [HS0.out]
  rintro r w1 ⟨rfl, cs, hw1, hcl, hcs⟩
  have G1 : Hid (w1.heap[w.heap.size + 1 + 1]? = some (.cells cs.toArray 64 (0, 0))) := by
    have := heap_new W0 (.cells cs.toArray 64)
    rw [HS0.out] at this
    show _ = _
    rw [hw1]
    exact this
  have B1 : Hid (Below W0.heap.size W0 w1) := by
    show Below _ _ _
    rw [hw1]
    exact below_alloc _ _
  have PM1 := hide (PM.start SW.out.ps B0.out hcl hcs (w1.setCell ⟨w.heap.size, 2, none⟩ (.slice (some ⟨w.heap.size + 1 + 1, 0, none⟩) ps.length ps.length)) (w.heap.size + 1 + 1 + 1))
  have C0 : Hid (CC w w1 (w.heap.size + 1 + 1) (.int .i64 T) (.int .i64 M) (.slice pa ps.length pc) (.slice la pl.length lc) (.slice da dr.length dc) cs.toArray ps.length) :=
    ⟨heap_below X0.out B1.out, heap_below Z0.out B1.out, G1.out, by rw [List.size_toArray, hcl], btr B0.out B1.out, by omega⟩
  have C1 := hide (C0.out.box (u2 := .slice (some ⟨w.heap.size + 1 + 1, 0, none⟩) ps.length ps.length) 2 _ rfl)
  obtain ⟨x0, x1, x2, x3, x4⟩ := sc_cells C0.out.bx
  have fz2 := frozen_of C0.out.bx 2
  have N1 : Hid (w.heap.size + 1 + 1 + 1 ≤ (w1.setCell ⟨w.heap.size, 2, none⟩ (.slice (some ⟨w.heap.size + 1 + 1, 0, none⟩) ps.length ps.length)).heap.size) := De.heap_lt C1.out.pr
  clear hw1 hcl hcs
  go_wp2_with fail
  go_loopw [13] (fun i wr => ∃ (k : Nat) (arr : Array Value), k ≤ ps.length ∧ i = .int .i64 k ∧ CC w wr (w.heap.size + 1 + 1) (.int .i64 T) (.int .i64 M) (.slice (some ⟨w.heap.size + 1 + 1, 0, none⟩) ps.length ps.length) (.slice la pl.length lc) (.slice da dr.length dc) arr ps.length ∧ PM w wr (w.heap.size + 1 + 1 + 1) k arr ps ∧ w.heap.size + 1 + 1 + 1 ≤ wr.heap.size) (fun i _ => ps.length - (intOf i).toNat)
  case atStart => exact ⟨0, cs.toArray, Nat.zero_le _, rfl, C1.out, PM1.out, N1.out⟩
  case round =>
    clear x0 x1 x2 x3 x4 fz2 C0 C1 PM1 G1 B1 N1 B0 X0 Z0 HS0
    rename World => w2
    obtain ⟨k, arr, hk, rfl, c2, pm2, n2⟩ := hrel
    have C2 := hide c2
    have PM2 := hide pm2
    clear c2 pm2
    by_cases hlt : k < ps.length
    · have hlt' : (k : Int) < (ps.length : Int) := by omega
      obtain ⟨q, hq⟩ : ∃ q, ps[k]? = some q := ⟨ps[k], by simp [hlt]⟩
      obtain ⟨qa, qc, har, hO⟩ := PM2.out.2 k q (Nat.le_refl _) hq
      have ck := (cell_of C2.out.pr k).trans har
      have hqm := List.mem_of_getElem? hq
      have hq1 := H100.out q hqm
      have hq3 := H3.out q hqm
      have HQ := hide hq
      have HO := hide hO
      have HQ3 := hide hq3
      clear hq hO hqm hq3 har
      go_wp2_with fail
      refine (copied_op qa q qc _ (HO.out.below C2.out.bel) (by omega)).mono ?_
      rintro r w3 ⟨rfl, cq, hw3, hcl, hcs⟩
      have B3 : Hid (Below w2.heap.size w2 w3) := by
        show Below _ _ _
        rw [hw3]
        exact below_alloc _ _
      have OM3 : Hid (OM w3 w.heap.size w2.heap.size 0 q) := by
        have := OM.start HO.out C2.out.bel hcl hcs HQ3.out
        rw [← hw3] at this
        exact this
      have G3 : Hid (w3.heap[w2.heap.size]? = some (.cells cq.toArray 44 (0, 0))) := by
        show _ = _
        rw [hw3]
        exact heap_new _ _
      have s3 := De.heap_lt G3.out
      have HCL := hide hcl
      clear hw3 hcl hcs ck
      go_wp2_with fail
      go_loopw [22] (fun i wr => ∃ (j : Nat), j ≤ q.length ∧ i = .int .i64 j ∧ Below w2.heap.size w2 wr ∧ OM wr w.heap.size w2.heap.size j q ∧ (∀ i, wr.frozen? ⟨w2.heap.size, i, none⟩ = false) ∧ w2.heap.size < wr.heap.size) (fun i _ => q.length - (intOf i).toNat)
      case atStart => exact ⟨0, Nat.zero_le _, rfl, B3.out, OM3.out, fun i => frozen_of G3.out i, s3⟩
      case round =>
        clear OM3 G3 s3 B3
        obtain ⟨j, hj, rfl, bw, om4, fz4, n4⟩ := hrel
        have BW := hide bw
        have OM4 := hide om4
        have FZ4 := hide fz4
        clear bw om4 fz4
        by_cases hjl : j < q.length
        · have hjl' : (j : Int) < (q.length : Int) := by omega
          obtain ⟨o, ho⟩ : ∃ o, q[j]? = some o := ⟨q[j], by simp [hjl]⟩
          obtain ⟨ca, cc, ⟨y0, y1, y2, y3, y4⟩, hC, -, -, hl3⟩ := OM4.out j o ho
          have HX := hide ho
          have HC := hide hC
          clear ho hC y0 y1 y2 y4
          go_wp2_with fail
          refine (copied_case ca o.cases cc _ HC.out (by omega)).mono ?_
          rintro r w5 ⟨rfl, c5, b5⟩
          have C5 := hide c5
          have s5 := b5.size
          have OM5 := hide (OM4.out.below b5)
          have z3 := cellB y3 b5
          have zf := (b5.frozen (p := ⟨w2.heap.size, j * 5 + 3, none⟩) n4).trans (FZ4.out (j * 5 + 3))
          have FZ5 : Hid (∀ i, w5.frozen? ⟨w2.heap.size, i, none⟩ = false) := fun i => (b5.frozen (p := ⟨w2.heap.size, i, none⟩) n4).trans (FZ4.out i)
          have BW5 := hide (BW.out.trans (b5.mono (Nat.le_of_lt n4)))
          clear c5 b5 y3
          go_wp2_with fail
          go_roundw
          case rel => exact ⟨j + 1, by omega, by go_num, BW5.out.setCell (Nat.le_refl _) _, OM5.out.step (by omega) HX.out ⟨wr.heap.size, 0, none⟩ o.cases.length C5.out n4, fun i => by rw [World.frozen?_setCell]; exact FZ5.out i, Nat.lt_of_lt_of_le (Nat.lt_of_lt_of_le n4 s5) ((De.KB.refl w2.heap.size w5).setCell (j * 5 + 3) (.slice (some ⟨wr.heap.size, 0, none⟩) o.cases.length o.cases.length)).size⟩
          case measure => simp [intOf]; omega
        · have hjl' : ¬ ((j : Int) < (q.length : Int)) := by omega
          have C5 := hide (C2.out.below BW.out)
          have PM5 := hide (PM2.out.below BW.out (by omega))
          have OF5 := hide (OM4.out.done (by omega))
          have PM6 := hide ((PM5.out.step HQ.out (by rw [C5.out.sz]; exact hlt) w2.heap.size q.length OF5.out n2 (by omega)).kb ((De.KB.refl (w.heap.size + 1 + 1) wr).setCell k (.slice (some ⟨w2.heap.size, 0, none⟩) q.length q.length)) (by omega))
          obtain ⟨x0, x1, x2, x3, x4⟩ := sc_cells C5.out.bx
          have fk := frozen_of C5.out.pr k
          obtain ⟨vk, hvk⟩ : ∃ v, wr.cell? ⟨w.heap.size + 1 + 1, k, none⟩ = some v := ⟨_, (cell_of C5.out.pr k).trans (Array.getElem?_eq_getElem (by rw [C5.out.sz]; exact hlt))⟩
          have s6 := ((De.KB.refl (w.heap.size + 1 + 1) wr).setCell k (.slice (some ⟨w2.heap.size, 0, none⟩) q.length q.length)).size
          go_wp2_with fail
          go_roundw
          case rel => exact ⟨k + 1, _, by omega, by go_num, C5.out.store k _, PM6.out, by omega⟩
          case measure => simp [intOf]; omega
    · have hlt' : ¬ ((k : Int) < (ps.length : Int)) := by omega
      have PF2 : Hid (PF w2 (w.heap.size + 1 + 1 + 1) arr ps) := by
        have := PM2.out.1
        rw [List.take_of_length_le (by omega)] at this
        exact this
      obtain ⟨x0, x1, x2, x3, x4⟩ := sc_cells C2.out.bx
      clear PM2
      go_wp2_with fail
      refine (copied_int la pl lc _ (SW.out.pl.below C2.out.bel) (by show pl.length ≤ 1000000; omega)).mono ?_
      rintro r w3 ⟨rfl, hw3⟩
      have B3 : Hid (Below w2.heap.size w2 w3) := by
        show Below _ _ _
        rw [hw3]
        exact below_alloc _ _
      have L3 : Hid (w3.heap[w2.heap.size]? = some (.cells (row pl) 3 (0, 0))) := by
        show _ = _
        rw [hw3]
        exact heap_new _ _
      have s3 := De.heap_lt L3.out
      have C3 := hide (C2.out.below B3.out)
      have PF3 := hide (PF2.out.below B3.out (by omega))
      obtain ⟨x0, x1, x2, x3, x4⟩ := sc_cells C3.out.bx
      have fz3 := frozen_of C3.out.bx 3
      have K4 := (De.KB.refl w.heap.size w3).setCell 3 (.slice (some ⟨w2.heap.size, 0, none⟩) pl.length pl.length)
      have C4 := hide (C3.out.box (u3 := .slice (some ⟨w2.heap.size, 0, none⟩) pl.length pl.length) 3 _ rfl)
      have PF4 := hide (PF3.out.kb K4 (by omega))
      have L4 := hide (K4.heap L3.out (by omega))
      have s4 := K4.size
      clear hw3 K4
      go_wp2_with fail
      refine (copied_int da dr dc _ (SW.out.dr.below C4.out.bel) (by show dr.length ≤ 1000000; omega)).mono ?_
      generalize hW4 : w3.setCell ⟨w.heap.size, 3, none⟩ (.slice (some ⟨w2.heap.size, 0, none⟩) pl.length pl.length) = W4 at C4 PF4 L4 s4 ⊢
      rintro r w5 ⟨rfl, hw5⟩
      have B5 : Hid (Below W4.heap.size W4 w5) := by
        show Below _ _ _
        rw [hw5]
        exact below_alloc _ _
      have D5 : Hid (w5.heap[W4.heap.size]? = some (.cells (row dr) 3 (0, 0))) := by
        show _ = _
        rw [hw5]
        exact heap_new _ _
      have C5 := hide (C4.out.below B5.out)
      have PF5 := hide (PF4.out.below B5.out (by omega))
      have L5 := hide (heap_below L4.out B5.out)
      obtain ⟨x0, x1, x2, x3, x4⟩ := sc_cells C5.out.bx
      have fz4 := frozen_of C5.out.bx 4
      have K6 := (De.KB.refl w.heap.size w5).setCell 4 (.slice (some ⟨W4.heap.size, 0, none⟩) dr.length dr.length)
      have C6 := hide (C5.out.box (u4 := .slice (some ⟨W4.heap.size, 0, none⟩) dr.length dr.length) 4 _ rfl)
      have PF6 := hide (PF5.out.kb K6 (by omega))
      have L6 := hide (K6.heap L5.out (by omega))
      have D6 := hide (K6.heap D5.out (by omega))
      obtain ⟨y0, y1, y2, y3, y4⟩ := sc_cells C6.out.bx
      obtain ⟨r0, r1, r2, r3, r4⟩ := sc_cells C6.out.zr
      have q0 := frozen_of C6.out.zr 0
      have q1 := frozen_of C6.out.zr 1
      have q2 := frozen_of C6.out.zr 2
      have q3 := frozen_of C6.out.zr 3
      have q4 := frozen_of C6.out.zr 4
      clear hw5 K6 hW4
      go_wp2_with fail
      have KZ := fun (u0 u1 u2 u3 u4 : Value) => (((((De.KB.refl (w.heap.size + 1) (w5.setCell ⟨w.heap.size, 4, none⟩ (.slice (some ⟨W4.heap.size, 0, none⟩) dr.length dr.length))).setCell 0 u0).setCell 1 u1).setCell 2 u2).setCell 3 u3).setCell 4 u4
      have hL2 : w.heap.size + 1 + 1 < w2.heap.size := by omega
      exact bodyPost_ret (results_row1 Tryz.results24 _ _ _ _ rfl (loadVar_sc (five_set C6.out.zr _ _ _ _ _) rfl)) rfl ⟨⟨w.heap.size + 1 + 1, w2.heap.size, W4.heap.size, arr, rfl, ⟨(KZ _ _ _ _ _).heap C6.out.pr (by omega), (PF6.out.kb (KZ _ _ _ _ _) (by omega)).mono (by omega), by omega⟩, ⟨(KZ _ _ _ _ _).heap L6.out (by omega), hL2⟩, (KZ _ _ _ _ _).heap D6.out (by omega), by omega⟩, De.KB.below C6.out.bel (KZ _ _ _ _ _) (by omega)⟩
end Sh
end Go.Proofs.YtddchcekljndmaaGreat
/- slices.IndexFunc and DeleteFunc at isCompact, over this seat's program. -/
namespace Go.Proofs.YtddchcekljndmaaGreat
open Go.ChangeShapes Go.WideShapes Go.ChangeAt Go.RowKit
namespace Sh
open De Ba Re

/-- a list without its Compact entries -/
def bar (l : List Int) : List Int := l.filter fun n => !(n == -1)
end Sh
end Go.Proofs.YtddchcekljndmaaGreat
/- Package sheet: Bare, over this seat's program. -/
namespace Go.Proofs.YtddchcekljndmaaGreat
open Go.ChangeShapes Go.WideShapes Go.ChangeAt Go.RowKit
namespace Sh
open De Ba Re

/-- what Bare answers -/
def BRes (w : World) (T M : Int) (ps : List (List OpD)) (pl dr : List Int) (r : Ending) (w' : World) : Prop :=
  ∃ G L D arr, r = .returned (.agg #[.int .i64 T, .int .i64 M, .slice (some ⟨G, 0, none⟩) ps.length ps.length, .slice (some ⟨L, 0, none⟩) (bar pl).length pl.length, .slice (some ⟨D, 0, none⟩) dr.length dr.length]) ∧ (w'.heap[G]? = some (.cells arr 64 (0, 0)) ∧ PF w' (w.heap.size + 1) arr ps ∧ w.heap.size < G) ∧ (At w' (some ⟨L, 0, none⟩) (bar pl) ∧ G < L) ∧ w'.heap[D]? = some (.cells (row dr) 3 (0, 0)) ∧ L < D
theorem row_only {pl : List Int} {i : Nat} {v : Value} (h : (row pl)[i]? = some v) : ∃ n, v = .int .i64 n := by
  rw [row, List.getElem?_toArray, List.getElem?_map] at h
  cases hx : pl[i]? with
  | none => rw [hx] at h; cases h
  | some n => rw [hx] at h; exact ⟨n, (Option.some.inj h).symm⟩
theorem OF.kb_row {w w' : World} {N g L : Nat} {l : List OpD} {pl : List Int} {t : TypeId} {fr : Nat × Nat} (h : OF w N g l) (k : De.KB L w w') (hL : w.heap[L]? = some (.cells (row pl) t fr)) : OF w' N g l := by
  intro i o hi
  obtain ⟨ca, cc, ⟨q0, q1, q2, q3, q4⟩, hC, hN, h3⟩ := h i o hi
  have hg : g ≠ L := by
    rintro rfl
    rw [cell_of hL] at q3
    obtain ⟨n, e⟩ := row_only q3
    cases e
  refine ⟨ca, cc, ⟨kb_cell k q0 hg, kb_cell k q1 hg, kb_cell k q2 hg, kb_cell k q3 hg, kb_cell k q4 hg⟩, cat_kb' k hC ?_, hN, h3⟩
  intro a e hne hb
  cases hc : o.cases with
  | nil => exact hne hc
  | cons x xs =>
    obtain ⟨b, off, e2, y0, _⟩ := hC 0 x (by rw [hc]; rfl)
    rw [e] at e2
    cases e2
    simp only at hb
    subst hb
    rw [cell_of hL] at y0
    obtain ⟨n, e⟩ := row_only y0
    cases e
theorem PF.kb_row {w w' : World} {N L : Nat} {arr : Array Value} {ps : List (List OpD)} {pl : List Int} {t : TypeId} {fr : Nat × Nat} (h : PF w N arr ps) (k : De.KB L w w') (hL : w.heap[L]? = some (.cells (row pl) t fr)) : PF w' N arr ps := by
  intro i q hi
  obtain ⟨g, c, h1, h2, h3, h4⟩ := h i q hi
  exact ⟨g, c, h1, h2.kb_row k hL, h3, h4⟩
end Sh
end Go.Proofs.YtddchcekljndmaaGreat
/- The laws' own Script, over this seat's program. -/
namespace Go.Proofs.YtddchcekljndmaaGreat
open Go.ChangeShapes Go.WideShapes Go.ChangeAt Go.RowKit
namespace Sh
open De Ba Re

/-- a bool that says whether p -/
def SR (p : Prop) (r : Ending) : Prop := ∃ b, r = .returned (.bool b) ∧ (b = true ↔ p)
end Sh
end Go.Proofs.YtddchcekljndmaaGreat
/- The laws' own large(), over this seat's program. -/
namespace Go.Proofs.YtddchcekljndmaaGreat
open Go.ChangeShapes Go.WideShapes Go.ChangeAt Go.RowKit
namespace Sh
open De Ba Re

/-- what large answers: if it is not, all is small -/
def LR (ps : List (List OpD)) (pl dr : List Int) (r : Ending) : Prop := ∃ b, r = .returned (.bool b) ∧ (b = false → Small ps pl dr)
/-- no operation holds more cases than memory has room for -/
def Held (ps : List (List OpD)) : Prop := ∀ q ∈ ps, ∀ o ∈ q, o.cases.length ≤ 140737488355328
end Sh
end Go.Proofs.YtddchcekljndmaaGreat
/- Scripts, there and back (plain). -/
namespace Go.Proofs.YtddchcekljndmaaGreat
open Go.ChangeShapes Go.WideShapes Go.ChangeAt Go.RowKit
namespace Sh
open De Ba Re

end Sh
end Go.Proofs.YtddchcekljndmaaGreat
/- The laws' own exits(), over this seat's program. -/
namespace Go.Proofs.YtddchcekljndmaaGreat
open Go.ChangeShapes Go.WideShapes Go.ChangeAt Go.RowKit
namespace Sh
open De Ba Re

def o9 : OpD := ⟨9, 0, 0, [], false⟩
def s9 : Sc := ⟨2, 9, [[o9]], [0, -1], []⟩
/-- the memory in which exits' script lies -/
def W9 (w : World) : World := (((w.alloc (.cells #[.int .i64 9, .int .i64 0, .int .i64 0, .slice none 0 0, .bool false] 44)).alloc (.cells #[.slice (some ⟨w.heap.size, 0, none⟩) 1 1] 64)).alloc (.cells #[.int .i64 0, .int .i64 (-1)] 3)).alloc (.cells #[.int .i64 2, .int .i64 9, .slice (some ⟨w.heap.size + 1, 0, none⟩) 1 1, .slice (some ⟨w.heap.size + 1 + 1, 0, none⟩) 2 2, .slice none 0 0] 25)
end Sh
end Go.Proofs.YtddchcekljndmaaGreat
/- A script among a law's arguments, opened. -/
namespace Go.Proofs.YtddchcekljndmaaGreat
open Go.ChangeShapes Go.WideShapes Go.ChangeAt Go.RowKit
namespace Sh
open De Ba Re

section
variable {H : Type} {enc : TypeId × Value → H} {w : World}
/-- within the form's own reach -/
def WL (t : TypeId) (d : DataW H) : Prop := ∀ m ∈ d.weights Tryz.prog t, m ≤ reachBytes
theorem mem_all {e : TypeId} : ∀ {l : List (DataW H)} {d : DataW H}, d ∈ l → ∀ n ∈ d.weights Tryz.prog e, n ∈ DataW.weightsAll Tryz.prog e l
  | d' :: r, d, hd, n, hn => by
    simp only [DataW.weightsAll, List.mem_append]
    rcases List.mem_cons.1 hd with rfl | h
    · exact Or.inl hn
    · exact Or.inr (mem_all h n hn)
theorem WL.field {t : TypeId} {fs : Array Field} {xs : List (DataW H × List MemPlace)} {j : Nat} {f : Field} {y : DataW H × List MemPlace} (hu : Tryz.prog.underlying t = some (.struct fs)) (hf : fs[j]? = some f) (hx : xs[j]? = some y) (hz : WL t (DataW.agg (xs.map (·.1)))) : WL f.type y.1 := by
  intro m hm
  apply hz
  simp only [DataW.weights, hu]
  refine DataW.weights_mem_each (j := j) ?_ ?_ m hm
  · rw [List.getElem?_map, Array.getElem?_toList, hf]
    rfl
  · rw [List.getElem?_map, hx]
    rfl
theorem WL.elem {t e : TypeId} {l sp : List (DataW H)} (hu : Tryz.prog.underlying t = some (.slice e)) (hz : WL t (DataW.slice l sp)) : (l.length + sp.length) * Tryz.prog.bytesOf e ≤ reachBytes ∧ ∀ d ∈ l, WL e d := by
  unfold WL at hz
  simp only [DataW.weights, hu] at hz
  exact ⟨hz _ (List.mem_cons_self ..), fun d hd m hm => hz _ (List.mem_cons_of_mem _ (List.mem_append_left _ (mem_all hd m hm)))⟩
theorem WL.elemAt {t e : TypeId} {len : Nat} {D : Nat → DataW H} {sp : List (DataW H)} (hu : Tryz.prog.underlying t = some (.slice e)) (hz : WL t (DataW.slice ((List.range len).map D) sp)) (i : Nat) (hi : i < len) : WL e (D i) :=
  (hz.elem hu).2 _ (List.mem_map.2 ⟨i, List.mem_range.2 hi, rfl⟩)

theorem bytes_case : Tryz.prog.bytesOf 92 = 24 := by kernel_rfl
theorem cells_pr : Tryz.prog.cellsOf 64 = 1 := by kernel_rfl
theorem cells_prs : Tryz.prog.cellsOf 22 = 1 := by kernel_rfl
theorem cells_ints : Tryz.prog.cellsOf 23 = 1 := by kernel_rfl
theorem cells_sc : Tryz.prog.cellsOf 25 = 5 := by kernel_rfl

theorem cases_held {n : Nat} {v : Value} {x : DataW H × List MemPlace} (h : DataW.trod enc Tryz.prog w 0 (fun _ => true) true n 42 [v] = some x) (hz : WL 42 x.1) : ∃ (l : List Cs) (oa : Option Addr) (c : Nat), v = .slice oa l.length c ∧ CAt w oa l ∧ l.length ≤ maxLen ∧ l.length ≤ 140737488355328 := by
  obtain ⟨l, oa, c, rfl, hA, hm⟩ := cases_open h
  refine ⟨l, oa, c, rfl, hA, hm, ?_⟩
  rcases Go.Deep.open_slice Tryz.underlying42 h with ⟨hcs, _⟩ | ⟨a, len, cap, m, n', D, Pl, hcs, _, hl, _, hmm, hx, _⟩
  · simp at hcs
    have := hcs.2.1
    simp [this]
  · simp at hcs
    obtain ⟨_, e, _⟩ := hcs
    rw [hx] at hz
    have := (WL.elem Tryz.underlying42 hz).1
    rw [bytes_case] at this
    simp [reachBytes] at this
    omega

theorem op_held {n : Nat} {cs : List Value} {x : DataW H × List MemPlace} (h : DataW.trod enc Tryz.prog w 0 (fun _ => true) true n 44 cs = some x) (hz : WL 44 x.1) :
    ∃ (o : OpD) (oa : Option Addr) (c : Nat), (cs[0]? = some (.int .i64 o.kind) ∧ cs[1]? = some (.int .i64 o.a) ∧ cs[2]? = some (.int .i64 o.b) ∧ cs[3]? = some (.slice oa o.cases.length c) ∧ cs[4]? = some (.bool o.def_)) ∧ CAt w oa o.cases ∧ o.cases.length ≤ maxLen ∧ o.cases.length ≤ 140737488355328 := by
  obtain ⟨fs, hu, hsz, field5_0, field5_1, field5_2, field5_3, field5_4⟩ := fields5
  obtain ⟨xs, k, _, hxx, hcl, hxl, hff⟩ := DataW.trod_struct hu h
  rw [hxx] at hz
  rw [hsz] at hxl
  rw [cells_op] at hcl
  obtain ⟨f0, g0, o0, t0⟩ := field5_0
  have h0 := hff 0 f0 g0
  rw [o0, t0, De.cells_int] at h0
  obtain ⟨f1, g1, o1, t1⟩ := field5_1
  have h1 := hff 1 f1 g1
  rw [o1, t1, De.cells_int] at h1
  obtain ⟨f2, g2, o2, t2⟩ := field5_2
  have h2 := hff 2 f2 g2
  rw [o2, t2, De.cells_int] at h2
  obtain ⟨f3, g3, o3, t3⟩ := field5_3
  have h3 := hff 3 f3 g3
  rw [o3, t3, cells_cases] at h3
  obtain ⟨f4, g4, o4, t4⟩ := field5_4
  have h4 := hff 4 f4 g4
  rw [o4, t4, cells_bool] at h4
  have x3 : xs[3]? = some xs[3] := List.getElem?_eq_getElem (by omega)
  have z3 := WL.field hu g3 x3 hz
  rw [t3] at z3
  rw [x3] at h3
  rw [List.getElem?_eq_getElem (by omega)] at h0 h1 h2 h4
  obtain ⟨i0, e0, _⟩ := DataW.trod_int Tryz.underlying3 h0
  obtain ⟨i1, e1, _⟩ := DataW.trod_int Tryz.underlying3 h1
  obtain ⟨i2, e2, _⟩ := DataW.trod_int Tryz.underlying3 h2
  obtain ⟨i4, e4, _⟩ := DataW.trod_bool Tryz.underlying4 h4
  have hq : ∃ z, (cs.drop 3).take 1 = [z] := by
    have hl : ((cs.drop 3).take 1).length = 1 := by simp; omega
    match hq : (cs.drop 3).take 1, hl with
    | [z], _ => exact ⟨z, rfl⟩
  obtain ⟨z, e3⟩ := hq
  rw [e3] at h3
  obtain ⟨l, oa, c, rfl, hA, hm, hb⟩ := cases_held h3 z3
  exact ⟨⟨i0, i1, i2, l, i4⟩, oa, c, ⟨De.one_of e0, De.one_of e1, De.one_of e2, De.one_of e3, De.one_of e4⟩, hA, hm, hb⟩

theorem ops_held {n : Nat} {v : Value} {x : DataW H × List MemPlace} (h : DataW.trod enc Tryz.prog w 0 (fun _ => true) true n 64 [v] = some x) (hz : WL 64 x.1) : ∃ (l : List OpD) (oa : Option Addr) (c : Nat), v = .slice oa l.length c ∧ OAt w oa l ∧ l.length ≤ maxLen ∧ ∀ o ∈ l, o.cases.length ≤ 140737488355328 := by
  rcases Go.Deep.open_slice Tryz.underlying64 h with ⟨hcs, _⟩ | ⟨a, len, cap, m, n', D, Pl, hcs, _, hl, hm, hmm, hx, hel⟩
  · simp at hcs
    subst hcs
    exact ⟨[], none, 0, rfl, OAt.nil _ _, Nat.zero_le _, fun o ho => by cases ho⟩
  · simp at hcs
    subst hcs
    have hmc : m = cap := by simpa using hmm
    subst hmc
    rw [hx] at hz
    have key : ∀ i, i < len → ∃ o : OpD, (∃ ca cc, (w.cell? ((a.add (i * 5)).add 0) = some (.int .i64 o.kind) ∧ w.cell? ((a.add (i * 5)).add 1) = some (.int .i64 o.a) ∧ w.cell? ((a.add (i * 5)).add 2) = some (.int .i64 o.b) ∧ w.cell? ((a.add (i * 5)).add 3) = some (.slice ca o.cases.length cc) ∧ w.cell? ((a.add (i * 5)).add 4) = some (.bool o.def_)) ∧ CAt w ca o.cases) ∧ o.cases.length ≤ maxLen ∧ o.cases.length ≤ 140737488355328 := by
      intro i hi
      obtain ⟨cs', h1, h2⟩ := hel i (by omega)
      rw [cells_op] at h1
      obtain ⟨_, _, hcell⟩ := World.cells?_some h1
      obtain ⟨o, ca, cc, ⟨q0, q1, q2, q3, q4⟩, hC, hM, hB⟩ := op_held h2 (WL.elemAt Tryz.underlying64 hz i hi)
      exact ⟨o, ⟨ca, cc, ⟨(hcell 0 (by decide)).trans q0, (hcell 1 (by decide)).trans q1, (hcell 2 (by decide)).trans q2, (hcell 3 (by decide)).trans q3, (hcell 4 (by decide)).trans q4⟩, hC⟩, hM, hB⟩
    have fam : ∃ f : Nat → OpD, ∀ i, i < len → (∃ ca cc, (w.cell? ((a.add (i * 5)).add 0) = some (.int .i64 (f i).kind) ∧ w.cell? ((a.add (i * 5)).add 1) = some (.int .i64 (f i).a) ∧ w.cell? ((a.add (i * 5)).add 2) = some (.int .i64 (f i).b) ∧ w.cell? ((a.add (i * 5)).add 3) = some (.slice ca (f i).cases.length cc) ∧ w.cell? ((a.add (i * 5)).add 4) = some (.bool (f i).def_)) ∧ CAt w ca (f i).cases) ∧ (f i).cases.length ≤ maxLen ∧ (f i).cases.length ≤ 140737488355328 := by
      refine ⟨fun i => if hi : i < len then Classical.choose (key i hi) else ⟨0, 0, 0, [], false⟩, fun i hi => ?_⟩
      simp only [dif_pos hi]
      exact Classical.choose_spec (key i hi)
    obtain ⟨f, hf⟩ := fam
    have hlen : ((List.range len).map f).length = len := by simp
    refine ⟨(List.range len).map f, some a, m, by rw [hlen], ?_, by rw [hlen]; omega, ?_⟩
    · intro k o hk
      have hk2 : k < len := by
        have := (List.getElem?_eq_some_iff.1 hk).1
        simpa using this
      have hc : o = f k := by
        simp [hk2] at hk
        exact hk.symm
      subst hc
      obtain ⟨⟨ca, cc, ⟨q0, q1, q2, q3, q4⟩, hC⟩, hM, _⟩ := hf k hk2
      have hspot : a.spot = none := by
        obtain ⟨⟨_, _, ⟨p0, _⟩, _⟩, _⟩ := hf 0 (by omega)
        have := World.cell?_spot p0
        simpa [Addr.add] using this
      obtain ⟨b, off, spot⟩ := a
      simp at hspot
      subst hspot
      rw [Addr.add_lit, Addr.add_lit] at q0 q1 q2 q3 q4
      exact ⟨b, off, ca, cc, rfl, ⟨q0, q1, q2, q3, q4⟩, hC, hM⟩
    · intro o ho
      obtain ⟨i, hi, rfl⟩ := List.mem_map.1 ho
      exact (hf i (List.mem_range.1 hi)).2.2

theorem progs_held {n : Nat} {v : Value} {x : DataW H × List MemPlace} (h : DataW.trod enc Tryz.prog w 0 (fun _ => true) true n 22 [v] = some x) (hz : WL 22 x.1) : ∃ (l : List (List OpD)) (oa : Option Addr) (c : Nat), v = .slice oa l.length c ∧ PAt w oa l ∧ l.length ≤ maxLen ∧ Held l := by
  rcases Go.Deep.open_slice Tryz.underlying22 h with ⟨hcs, _⟩ | ⟨a, len, cap, m, n', D, Pl, hcs, _, hl, hm, hmm, hx, hel⟩
  · simp at hcs
    subst hcs
    exact ⟨[], none, 0, rfl, PAt.nil _ _, Nat.zero_le _, fun o ho => by cases ho⟩
  · simp at hcs
    subst hcs
    have hmc : m = cap := by simpa using hmm
    subst hmc
    rw [hx] at hz
    have key : ∀ i, i < len → ∃ q : List OpD, (∃ ca cc, w.cell? ((a.add (i * 1)).add 0) = some (.slice ca q.length cc) ∧ OAt w ca q) ∧ q.length ≤ maxLen ∧ ∀ o ∈ q, o.cases.length ≤ 140737488355328 := by
      intro i hi
      obtain ⟨cs', h1, h2⟩ := hel i (by omega)
      rw [cells_pr] at h1
      obtain ⟨_, hlc, hcell⟩ := World.cells?_some h1
      match cs', hlc, h2, hcell with
      | [z], _, h2, hcell =>
        obtain ⟨q, ca, cc, rfl, hO, hM, hB⟩ := ops_held h2 (WL.elemAt Tryz.underlying22 hz i hi)
        exact ⟨q, ⟨ca, cc, (hcell 0 (by decide)).trans rfl, hO⟩, hM, hB⟩
    have fam : ∃ f : Nat → List OpD, ∀ i, i < len → (∃ ca cc, w.cell? ((a.add (i * 1)).add 0) = some (.slice ca (f i).length cc) ∧ OAt w ca (f i)) ∧ (f i).length ≤ maxLen ∧ ∀ o ∈ f i, o.cases.length ≤ 140737488355328 := by
      refine ⟨fun i => if hi : i < len then Classical.choose (key i hi) else [], fun i hi => ?_⟩
      simp only [dif_pos hi]
      exact Classical.choose_spec (key i hi)
    obtain ⟨f, hf⟩ := fam
    have hlen : ((List.range len).map f).length = len := by simp
    refine ⟨(List.range len).map f, some a, m, by rw [hlen], ?_, by rw [hlen]; omega, ?_⟩
    · intro k o hk
      have hk2 : k < len := by
        have := (List.getElem?_eq_some_iff.1 hk).1
        simpa using this
      have hc : o = f k := by
        simp [hk2] at hk
        exact hk.symm
      subst hc
      obtain ⟨⟨ca, cc, q0, hC⟩, hM, _⟩ := hf k hk2
      have hspot : a.spot = none := by
        obtain ⟨⟨_, _, p0, _⟩, _⟩ := hf 0 (by omega)
        have := World.cell?_spot p0
        simpa [Addr.add] using this
      obtain ⟨b, off, spot⟩ := a
      simp at hspot
      subst hspot
      rw [Addr.add_lit, Addr.add_lit, Nat.mul_one, Nat.add_zero] at q0
      exact ⟨b, off, ca, cc, rfl, q0, hC, hM⟩
    · intro q hq
      obtain ⟨i, hi, rfl⟩ := List.mem_map.1 hq
      exact (hf i (List.mem_range.1 hi)).2.2

theorem ints_held {n : Nat} {v : Value} {x : DataW H × List MemPlace} (h : DataW.trod enc Tryz.prog w 0 (fun _ => true) true n 23 [v] = some x) : ∃ (l : List Int) (oa : Option Addr) (c : Nat), v = .slice oa l.length c ∧ At w oa l ∧ l.length ≤ maxLen := by
  have hv : ∃ oa len cap, v = .slice oa len cap := by
    rcases Go.Deep.open_slice Tryz.underlying23 h with ⟨hcs, _⟩ | ⟨a, len, cap, m, n', D, Pl, hcs, _⟩
    · simp at hcs; exact ⟨_, _, _, hcs⟩
    · simp at hcs; exact ⟨_, _, _, hcs⟩
  obtain ⟨oa, len, cap, rfl⟩ := hv
  obtain ⟨l, rfl, hA, h1, h2⟩ := ints_open h
  exact ⟨l, oa, cap, rfl, hA, by omega⟩

theorem fieldsS : ∃ fs : Array Field, Tryz.prog.underlying 25 = some (.struct fs) ∧ fs.size = 5 ∧ (∃ f, fs[0]? = some f ∧ f.offset = 0 ∧ f.type = 3) ∧ (∃ f, fs[1]? = some f ∧ f.offset = 1 ∧ f.type = 3) ∧ (∃ f, fs[2]? = some f ∧ f.offset = 2 ∧ f.type = 22) ∧ (∃ f, fs[3]? = some f ∧ f.offset = 3 ∧ f.type = 23) ∧ (∃ f, fs[4]? = some f ∧ f.offset = 4 ∧ f.type = 23) :=
  ⟨_, Tryz.underlying25, rfl, ⟨_, rfl, rfl, rfl⟩, ⟨_, rfl, rfl, rfl⟩, ⟨_, rfl, rfl, rfl⟩, ⟨_, rfl, rfl, rfl⟩, ⟨_, rfl, rfl, rfl⟩⟩
theorem one_in {cs : List Value} (hcl : cs.length = 5) (j : Nat) (hj : j < 5) : ∃ z, (cs.drop j).take 1 = [z] := by
  have hl : ((cs.drop j).take 1).length = 1 := by simp; omega
  match hq : (cs.drop j).take 1, hl with
  | [z], _ => exact ⟨z, rfl⟩

set_option maxRecDepth 100000 in
theorem script_open {n : Nat} {v : Value} {x : DataW H × List MemPlace} (h : DataW.trod enc Tryz.prog w 0 (fun _ => true) true n 25 v.cells.toList = some x) (hz : WL 25 x.1) :
    ∃ (T M : Int) (ps : List (List OpD)) (pl dr : List Int) (pa la da : Option Addr) (pc lc dc : Nat), v = .agg #[.int .i64 T, .int .i64 M, .slice pa ps.length pc, .slice la pl.length lc, .slice da dr.length dc] ∧ SAt w ⟨T, M, ps, pl, dr⟩ pa la da ∧ Held ps := by
  obtain ⟨fs, hu, hsz, field5_0, field5_1, field5_2, field5_3, field5_4⟩ := fieldsS
  obtain ⟨xs, k, _, hxx, hcl, hxl, hff⟩ := DataW.trod_struct hu h
  rw [hxx] at hz
  rw [hsz] at hxl
  rw [cells_sc] at hcl
  obtain ⟨f0, g0, o0, t0⟩ := field5_0
  have h0 := hff 0 f0 g0
  rw [o0, t0, De.cells_int] at h0
  obtain ⟨f1, g1, o1, t1⟩ := field5_1
  have h1 := hff 1 f1 g1
  rw [o1, t1, De.cells_int] at h1
  obtain ⟨f2, g2, o2, t2⟩ := field5_2
  have h2 := hff 2 f2 g2
  rw [o2, t2, cells_prs] at h2
  obtain ⟨f3, g3, o3, t3⟩ := field5_3
  have h3 := hff 3 f3 g3
  rw [o3, t3, cells_ints] at h3
  obtain ⟨f4, g4, o4, t4⟩ := field5_4
  have h4 := hff 4 f4 g4
  rw [o4, t4, cells_ints] at h4
  have x2 : xs[2]? = some xs[2] := List.getElem?_eq_getElem (by omega)
  have z2 := WL.field hu g2 x2 hz
  rw [t2] at z2
  rw [x2] at h2
  rw [List.getElem?_eq_getElem (by omega)] at h0 h1 h3 h4
  obtain ⟨T, e0, _⟩ := DataW.trod_int Tryz.underlying3 h0
  obtain ⟨M, e1, _⟩ := DataW.trod_int Tryz.underlying3 h1
  obtain ⟨y2, e2⟩ := one_in hcl 2 (by decide)
  obtain ⟨y3, e3⟩ := one_in hcl 3 (by decide)
  obtain ⟨y4, e4⟩ := one_in hcl 4 (by decide)
  rw [e2] at h2
  rw [e3] at h3
  rw [e4] at h4
  obtain ⟨ps, pa, pc, rfl, hP, m1, hH⟩ := progs_held h2 z2
  obtain ⟨pl, la, lc, rfl, hL, m2⟩ := ints_held h3
  obtain ⟨dr, da, dc, rfl, hD, m3⟩ := ints_held h4
  refine ⟨T, M, ps, pl, dr, pa, la, da, pc, lc, dc, ?_, ⟨hP, hL, hD, m1, m2, m3⟩, hH⟩
  have hc : v.cells = #[.int .i64 T, .int .i64 M, .slice pa ps.length pc, .slice la pl.length lc, .slice da dr.length dc] := by
    apply Array.toList_inj.1
    have q0 := De.one_of e0
    have q1 := De.one_of e1
    have q2 := De.one_of e2
    have q3 := De.one_of e3
    have q4 := De.one_of e4
    generalize v.cells.toList = L at *
    match L, hcl with
    | [y0, y1, y2, y3, y4], _ =>
      simp at q0 q1 q2 q3 q4
      simp [q0, q1, q2, q3, q4]
  cases v with
  | agg cs => rw [← hc]; rfl
  | _ => have := congrArg Array.size hc; simp [Value.cells] at this
end
end Sh
end Go.Proofs.YtddchcekljndmaaGreat
/- A bare script: small, right, its own bare one; Copy and Bare by what lies in memory. -/
namespace Go.Proofs.YtddchcekljndmaaGreat
open Go.ChangeShapes Go.WideShapes Go.ChangeAt Go.RowKit
namespace Sh
open De Ba Re

theorem bar_le (l : List Int) : (bar l).length ≤ l.length := List.length_filter_le ..
theorem Small.bar {ps : List (List OpD)} {pl dr : List Int} (h : Small ps pl dr) : Small ps (bar pl) dr := ⟨h.n, h.q, h.c, Nat.le_trans (bar_le pl) h.p, h.d⟩
end Sh
end Go.Proofs.YtddchcekljndmaaGreat
/- Encode and Decode, by what lies in memory; a right script is small. -/
namespace Go.Proofs.YtddchcekljndmaaGreat
open Go.ChangeShapes Go.WideShapes Go.ChangeAt Go.RowKit
namespace Sh
open De Ba Re

end Sh
end Go.Proofs.YtddchcekljndmaaGreat
/- The reference's row and within, over this seat's program. -/
namespace Go.Proofs.YtddchcekljndmaaGreat
open Go.ChangeShapes Go.WideShapes Go.ChangeAt Go.RowKit
namespace De
open Ba Re

theorem row_1 (w : World) :
    Calls Tryz.prog 89 #[.int .i64 1] w fun r w' => r = .returned (.string (bs [112, 46])) ∧ Below w.heap.size w w' := by
  show Calls Tryz.prog 89 #[.int .i64 1] w fun r w' => r = .returned (.string ⟨#[112, 46]⟩) ∧ Below w.heap.size w w'
  go_enter Tryz.func89, Tryz.ntmps89
  go_wp2
  go_ret
  exact ⟨rfl, below_alloc _ _⟩
theorem row_2 (w : World) :
    Calls Tryz.prog 89 #[.int .i64 2] w fun r w' => r = .returned (.string (bs [99, 109])) ∧ Below w.heap.size w w' := by
  show Calls Tryz.prog 89 #[.int .i64 2] w fun r w' => r = .returned (.string ⟨#[99, 109]⟩) ∧ Below w.heap.size w w'
  go_enter Tryz.func89, Tryz.ntmps89
  go_wp2
  go_ret
  exact ⟨rfl, below_alloc _ _⟩
theorem row_3 (w : World) :
    Calls Tryz.prog 89 #[.int .i64 3] w fun r w' => r = .returned (.string (bs [99, 118])) ∧ Below w.heap.size w w' := by
  show Calls Tryz.prog 89 #[.int .i64 3] w fun r w' => r = .returned (.string ⟨#[99, 118]⟩) ∧ Below w.heap.size w w'
  go_enter Tryz.func89, Tryz.ntmps89
  go_wp2
  go_ret
  exact ⟨rfl, below_alloc _ _⟩
theorem row_4 (w : World) :
    Calls Tryz.prog 89 #[.int .i64 4] w fun r w' => r = .returned (.string (bs [99, 46])) ∧ Below w.heap.size w w' := by
  show Calls Tryz.prog 89 #[.int .i64 4] w fun r w' => r = .returned (.string ⟨#[99, 46]⟩) ∧ Below w.heap.size w w'
  go_enter Tryz.func89, Tryz.ntmps89
  go_wp2
  go_ret
  exact ⟨rfl, below_alloc _ _⟩
theorem row_5 (w : World) :
    Calls Tryz.prog 89 #[.int .i64 5] w fun r w' => r = .returned (.string (bs [99, 46])) ∧ Below w.heap.size w w' := by
  show Calls Tryz.prog 89 #[.int .i64 5] w fun r w' => r = .returned (.string ⟨#[99, 46]⟩) ∧ Below w.heap.size w w'
  go_enter Tryz.func89, Tryz.ntmps89
  go_wp2
  go_ret
  exact ⟨rfl, below_alloc _ _⟩
theorem row_6 (w : World) :
    Calls Tryz.prog 89 #[.int .i64 6] w fun r w' => r = .returned (.string (bs [46, 46])) ∧ Below w.heap.size w w' := by
  show Calls Tryz.prog 89 #[.int .i64 6] w fun r w' => r = .returned (.string ⟨#[46, 46]⟩) ∧ Below w.heap.size w w'
  go_enter Tryz.func89, Tryz.ntmps89
  go_wp2
  go_ret
  exact ⟨rfl, below_alloc _ _⟩
theorem row_7 (w : World) :
    Calls Tryz.prog 89 #[.int .i64 7] w fun r w' => r = .returned (.string (bs [120, 46])) ∧ Below w.heap.size w w' := by
  show Calls Tryz.prog 89 #[.int .i64 7] w fun r w' => r = .returned (.string ⟨#[120, 46]⟩) ∧ Below w.heap.size w w'
  go_enter Tryz.func89, Tryz.ntmps89
  go_wp2
  go_ret
  exact ⟨rfl, below_alloc _ _⟩
theorem row_8 (w : World) :
    Calls Tryz.prog 89 #[.int .i64 8] w fun r w' => r = .returned (.string (bs [120, 46])) ∧ Below w.heap.size w w' := by
  show Calls Tryz.prog 89 #[.int .i64 8] w fun r w' => r = .returned (.string ⟨#[120, 46]⟩) ∧ Below w.heap.size w w'
  go_enter Tryz.func89, Tryz.ntmps89
  go_wp2
  go_ret
  exact ⟨rfl, below_alloc _ _⟩
theorem row_9 (w : World) :
    Calls Tryz.prog 89 #[.int .i64 9] w fun r w' => r = .returned (.string (bs [46, 46])) ∧ Below w.heap.size w w' := by
  show Calls Tryz.prog 89 #[.int .i64 9] w fun r w' => r = .returned (.string ⟨#[46, 46]⟩) ∧ Below w.heap.size w w'
  go_enter Tryz.func89, Tryz.ntmps89
  go_wp2
  go_ret
  exact ⟨rfl, below_alloc _ _⟩
theorem within_p (n p : Int) (w : World) :
    Calls Tryz.prog 90 #[.int .i64 n, .int .u8 112, .int .i64 p] w fun r w' => r = .returned (.bool (decide (0 ≤ n) && decide (n < p))) ∧ w' = w := by
  by_cases h1 : 0 ≤ n
  · have e : (decide (0 ≤ n) && decide (n < p)) = decide (n < p) := by simp [h1]
    rw [e]
    clear e
    go_enter Tryz.func90, Tryz.ntmps90
    go_wp2
    go_ret
    exact ⟨rfl, rfl⟩
  · have e : (decide (0 ≤ n) && decide (n < p)) = false := by simp [h1]
    rw [e]
    clear e
    go_enter Tryz.func90, Tryz.ntmps90
    go_wp2
    go_ret
    exact ⟨rfl, rfl⟩
theorem within_c (n p : Int) (w : World) :
    Calls Tryz.prog 90 #[.int .i64 n, .int .u8 99, .int .i64 p] w fun r w' => r = .returned (.bool (decide (0 ≤ n) && decide (n < 8))) ∧ w' = w := by
  by_cases h1 : 0 ≤ n
  · have e : (decide (0 ≤ n) && decide (n < 8)) = decide (n < 8) := by simp [h1]
    rw [e]
    clear e
    go_enter Tryz.func90, Tryz.ntmps90
    go_wp2
    go_ret
    exact ⟨rfl, rfl⟩
  · have e : (decide (0 ≤ n) && decide (n < 8)) = false := by simp [h1]
    rw [e]
    clear e
    go_enter Tryz.func90, Tryz.ntmps90
    go_wp2
    go_ret
    exact ⟨rfl, rfl⟩
theorem within_x (n p : Int) (w : World) :
    Calls Tryz.prog 90 #[.int .i64 n, .int .u8 120, .int .i64 p] w fun r w' => r = .returned (.bool (decide (0 ≤ n) && decide (n < 8))) ∧ w' = w := by
  by_cases h1 : 0 ≤ n
  · have e : (decide (0 ≤ n) && decide (n < 8)) = decide (n < 8) := by simp [h1]
    rw [e]
    clear e
    go_enter Tryz.func90, Tryz.ntmps90
    go_wp2
    go_ret
    exact ⟨rfl, rfl⟩
  · have e : (decide (0 ≤ n) && decide (n < 8)) = false := by simp [h1]
    rw [e]
    clear e
    go_enter Tryz.func90, Tryz.ntmps90
    go_wp2
    go_ret
    exact ⟨rfl, rfl⟩
theorem within_m (n p : Int) (w : World) :
    Calls Tryz.prog 90 #[.int .i64 n, .int .u8 109, .int .i64 p] w fun r w' => r = .returned (.bool (decide (0 ≤ n) && decide (n ≤ 4))) ∧ w' = w := by
  by_cases h1 : 0 ≤ n
  · have e : (decide (0 ≤ n) && decide (n ≤ 4)) = decide (n ≤ 4) := by simp [h1]
    rw [e]
    clear e
    go_enter Tryz.func90, Tryz.ntmps90
    go_wp2
    go_ret
    exact ⟨rfl, rfl⟩
  · have e : (decide (0 ≤ n) && decide (n ≤ 4)) = false := by simp [h1]
    rw [e]
    clear e
    go_enter Tryz.func90, Tryz.ntmps90
    go_wp2
    go_ret
    exact ⟨rfl, rfl⟩
theorem within_v (n p : Int) (w : World) :
    Calls Tryz.prog 90 #[.int .i64 n, .int .u8 118, .int .i64 p] w fun r w' => r = .returned (.bool (decide (0 ≤ n) && decide (n ≤ 99))) ∧ w' = w := by
  by_cases h1 : 0 ≤ n
  · have e : (decide (0 ≤ n) && decide (n ≤ 99)) = decide (n ≤ 99) := by simp [h1]
    rw [e]
    clear e
    go_enter Tryz.func90, Tryz.ntmps90
    go_wp2
    go_ret
    exact ⟨rfl, rfl⟩
  · have e : (decide (0 ≤ n) && decide (n ≤ 99)) = false := by simp [h1]
    rw [e]
    clear e
    go_enter Tryz.func90, Tryz.ntmps90
    go_wp2
    go_ret
    exact ⟨rfl, rfl⟩
theorem within_d (n p : Int) (w : World) :
    Calls Tryz.prog 90 #[.int .i64 n, .int .u8 46, .int .i64 p] w fun r w' => r = .returned (.bool (n == 0)) ∧ w' = w := by
  go_enter Tryz.func90, Tryz.ntmps90
  go_wp2
  go_ret
  exact ⟨rfl, rfl⟩
/-- a kind's two signs -/
def sA (k : Int) : Nat := if k = 1 then 112 else if k = 2 ∨ k = 3 ∨ k = 4 ∨ k = 5 then 99 else if k = 7 ∨ k = 8 then 120 else 46
def sB (k : Int) : Nat := if k = 2 then 109 else if k = 3 then 118 else 46
theorem row_any (k : Int) (h1 : 1 ≤ k) (h2 : k ≤ 9) (w : World) :
    Calls Tryz.prog 89 #[.int .i64 k] w fun r w' => r = .returned (.string (bs [sA k, sB k])) ∧ Below w.heap.size w w' := by
  rcases kind_cases h1 h2 with rfl | rfl | rfl | rfl | rfl | rfl | rfl | rfl | rfl
  · exact row_1 w
  · exact row_2 w
  · exact row_3 w
  · exact row_4 w
  · exact row_5 w
  · exact row_6 w
  · exact row_7 w
  · exact row_8 w
  · exact row_9 w
theorem withinA (k n p : Int) (h1 : 1 ≤ k) (h2 : k ≤ 9) (w : World) :
    Calls Tryz.prog 90 #[.int .i64 n, .int .u8 (sA k : Int), .int .i64 p] w fun r w' => r = .returned (.bool (upB n (mA k p))) ∧ w' = w := by
  rcases kind_cases h1 h2 with rfl | rfl | rfl | rfl | rfl | rfl | rfl | rfl | rfl
  · have e : upB n (mA 1 p) = (decide (0 ≤ n) && decide (n < p)) := by
      simp only [upB, mA, if_true]
      congr 1
      exact decide_eq_decide.2 (by omega)
    rw [e]
    exact within_p n p w
  · have e : upB n (mA 2 p) = (decide (0 ≤ n) && decide (n < 8)) := by
      have : mA 2 p = 7 := rfl
      simp only [upB, this]
      congr 1
      exact decide_eq_decide.2 (by omega)
    rw [e]
    exact within_c n p w
  · have e : upB n (mA 3 p) = (decide (0 ≤ n) && decide (n < 8)) := by
      have : mA 3 p = 7 := rfl
      simp only [upB, this]
      congr 1
      exact decide_eq_decide.2 (by omega)
    rw [e]
    exact within_c n p w
  · have e : upB n (mA 4 p) = (decide (0 ≤ n) && decide (n < 8)) := by
      have : mA 4 p = 7 := rfl
      simp only [upB, this]
      congr 1
      exact decide_eq_decide.2 (by omega)
    rw [e]
    exact within_c n p w
  · have e : upB n (mA 5 p) = (decide (0 ≤ n) && decide (n < 8)) := by
      have : mA 5 p = 7 := rfl
      simp only [upB, this]
      congr 1
      exact decide_eq_decide.2 (by omega)
    rw [e]
    exact within_c n p w
  · have e : upB n (mA 6 p) = (n == 0) := by
      have : mA 6 p = 0 := rfl
      rw [Bool.eq_iff_iff, upB_iff, this]
      simp
      omega
    rw [e]
    exact within_d n p w
  · have e : upB n (mA 7 p) = (decide (0 ≤ n) && decide (n < 8)) := by
      have : mA 7 p = 7 := rfl
      simp only [upB, this]
      congr 1
      exact decide_eq_decide.2 (by omega)
    rw [e]
    exact within_x n p w
  · have e : upB n (mA 8 p) = (decide (0 ≤ n) && decide (n < 8)) := by
      have : mA 8 p = 7 := rfl
      simp only [upB, this]
      congr 1
      exact decide_eq_decide.2 (by omega)
    rw [e]
    exact within_x n p w
  · have e : upB n (mA 9 p) = (n == 0) := by
      have : mA 9 p = 0 := rfl
      rw [Bool.eq_iff_iff, upB_iff, this]
      simp
      omega
    rw [e]
    exact within_d n p w
theorem withinB (k n p : Int) (h1 : 1 ≤ k) (h2 : k ≤ 9) (w : World) :
    Calls Tryz.prog 90 #[.int .i64 n, .int .u8 (sB k : Int), .int .i64 p] w fun r w' => r = .returned (.bool (upB n (mB k))) ∧ w' = w := by
  rcases kind_cases h1 h2 with rfl | rfl | rfl | rfl | rfl | rfl | rfl | rfl | rfl
  · have e : upB n (mB 1) = (n == 0) := by
      have : mB 1 = 0 := rfl
      rw [Bool.eq_iff_iff, upB_iff, this]
      simp
      omega
    rw [e]
    exact within_d n p w
  · exact within_m n p w
  · exact within_v n p w
  · have e : upB n (mB 4) = (n == 0) := by
      have : mB 4 = 0 := rfl
      rw [Bool.eq_iff_iff, upB_iff, this]
      simp
      omega
    rw [e]
    exact within_d n p w
  · have e : upB n (mB 5) = (n == 0) := by
      have : mB 5 = 0 := rfl
      rw [Bool.eq_iff_iff, upB_iff, this]
      simp
      omega
    rw [e]
    exact within_d n p w
  · have e : upB n (mB 6) = (n == 0) := by
      have : mB 6 = 0 := rfl
      rw [Bool.eq_iff_iff, upB_iff, this]
      simp
      omega
    rw [e]
    exact within_d n p w
  · have e : upB n (mB 7) = (n == 0) := by
      have : mB 7 = 0 := rfl
      rw [Bool.eq_iff_iff, upB_iff, this]
      simp
      omega
    rw [e]
    exact within_d n p w
  · have e : upB n (mB 8) = (n == 0) := by
      have : mB 8 = 0 := rfl
      rw [Bool.eq_iff_iff, upB_iff, this]
      simp
      omega
    rw [e]
    exact within_d n p w
  · have e : upB n (mB 9) = (n == 0) := by
      have : mB 9 = 0 := rfl
      rw [Bool.eq_iff_iff, upB_iff, this]
      simp
      omega
    rw [e]
    exact within_d n p w
end De
end Go.Proofs.YtddchcekljndmaaGreat
/- The reference's Check, over this seat's program. -/
namespace Go.Proofs.YtddchcekljndmaaGreat
open Go.ChangeShapes Go.WideShapes Go.ChangeAt Go.RowKit
namespace De
open Ba Re

theorem up7 (n : Int) : upB n 7 = (decide (0 ≤ n) && decide (n < 8)) := by
  unfold upB
  congr 1
  exact decide_eq_decide.2 (by omega)
theorem rchan (n : Int) (x : Bool) (h : upB n 7 = x) (w : World) :
    Calls Tryz.prog 90 #[.int .i64 n, .int .u8 99, .int .i64 0] w fun r w' => r = .returned (.bool x) ∧ w' = w := by
  rw [← h, up7]
  exact within_c n 0 w
theorem rval (n : Int) (x : Bool) (h : upB n 99 = x) (w : World) :
    Calls Tryz.prog 90 #[.int .i64 n, .int .u8 118, .int .i64 0] w fun r w' => r = .returned (.bool x) ∧ w' = w := by
  rw [← h]
  exact within_v n 0 w
theorem withinA_is (k n p : Int) (x : Bool) (h1 : 1 ≤ k) (h2 : k ≤ 9) (hx : upB n (mA k p) = x) (w : World) :
    Calls Tryz.prog 90 #[.int .i64 n, .int .u8 (sA k : Int), .int .i64 p] w fun r w' => r = .returned (.bool x) ∧ w' = w := by
  rw [← hx]
  exact withinA k n p h1 h2 w
theorem withinB_is (k n p : Int) (x : Bool) (h1 : 1 ≤ k) (h2 : k ≤ 9) (hx : upB n (mB k) = x) (w : World) :
    Calls Tryz.prog 90 #[.int .i64 n, .int .u8 (sB k : Int), .int .i64 p] w fun r w' => r = .returned (.bool x) ∧ w' = w := by
  rw [← hx]
  exact withinB k n p h1 h2 w
theorem sgA (k : Int) (h1 : 1 ≤ k) (h2 : k ≤ 9) : sA k < 256 ∧ sB k < 256 := by
  rcases kind_cases h1 h2 with rfl | rfl | rfl | rfl | rfl | rfl | rfl | rfl | rfl <;> decide
theorem ixA (k : Int) (h1 : 1 ≤ k) (h2 : k ≤ 9) (w : World) : (Instr.index 9 (.string (bs [sA k, sB k])) (.int .i64 0)).run Tryz.prog w = .ok (.int .u8 (sA k : Int)) w := by
  have h := sgA k h1 h2
  have := ix_str (bs [sA k, sB k]) 0 (sA k) (by rw [nbs_bs _ (by simp; omega)]; rfl) w
  exact this
theorem ixB (k : Int) (h1 : 1 ≤ k) (h2 : k ≤ 9) (w : World) : (Instr.index 9 (.string (bs [sA k, sB k])) (.int .i64 1)).run Tryz.prog w = .ok (.int .u8 (sB k : Int)) w := by
  have h := sgA k h1 h2
  have := ix_str (bs [sA k, sB k]) 1 (sB k) (by rw [nbs_bs _ (by simp; omega)]; rfl) w
  exact this

set_option maxHeartbeats 800000 in
theorem rcheck_arg (o : OpD) (oa : Option Addr) (c : Nat) (p : Int) (w : World) (h : (okP p && (decide (1 ≤ o.kind) && decide (o.kind ≤ 9))) = false) :
    Calls Tryz.prog 63 #[.agg #[.int .i64 o.kind, .int .i64 o.a, .int .i64 o.b, .slice oa o.cases.length c, .bool o.def_], .int .i64 p] w fun r w' => r = .returned (.int .i64 1) ∧ Below w.heap.size w w' := by
  obtain ⟨k, a, b, cs, d⟩ := o
  have hk : p < 1 ∨ 8 < p ∨ k < 1 ∨ 9 < k := by
    simp [okP] at h
    by_cases q1 : 1 ≤ p
    · by_cases q2 : p ≤ 8
      · by_cases q3 : 1 ≤ k
        · have := h q1 q2 q3; omega
        · omega
      · omega
    · omega
  clear h
  by_cases h1 : p < 1
  · have d1 : decide (p < 1) = true := by simpa using h1
    clear hk
    go_enter Tryz.func63, Tryz.ntmps63
    go_wp2_with fail
    go_ret
    exact ⟨rfl, below_alloc _ _⟩
  have d1 : decide (p < 1) = false := by simpa using h1
  by_cases h2 : 8 < p
  · have d2 : decide (8 < p) = true := by simpa using h2
    clear hk
    go_enter Tryz.func63, Tryz.ntmps63
    go_wp2_with fail
    go_ret
    exact ⟨rfl, below_alloc _ _⟩
  have d2 : decide (8 < p) = false := by simpa using h2
  by_cases h3 : k < 1
  · have d3 : decide (k < 1) = true := by simpa using h3
    clear hk
    go_enter Tryz.func63, Tryz.ntmps63
    go_wp2_with fail
    go_ret
    exact ⟨rfl, below_alloc _ _⟩
  have d3 : decide (k < 1) = false := by simpa using h3
  have d4 : decide (9 < k) = true := by simp; omega
  clear hk
  go_enter Tryz.func63, Tryz.ntmps63
  go_wp2_with fail
  go_ret
  exact ⟨rfl, below_alloc _ _⟩

set_option maxHeartbeats 800000 in
theorem rcheck_long (o : OpD) (oa : Option Addr) (c : Nat) (p : Int) (w : World) (hp : okP p = true) (h1 : 1 ≤ o.kind) (h2 : o.kind ≤ 9) (hl : 4 < o.cases.length) (hm : o.cases.length ≤ maxLen) :
    Calls Tryz.prog 63 #[.agg #[.int .i64 o.kind, .int .i64 o.a, .int .i64 o.b, .slice oa o.cases.length c, .bool o.def_], .int .i64 p] w fun r w' => r = .returned (.int .i64 2) ∧ Below w.heap.size w w' := by
  obtain ⟨k, a, b, cs, d⟩ := o
  unfold maxLen at hm
  obtain ⟨p1, p2⟩ := (okP_iff p).1 hp
  simp only at h1 h2 hl hm ⊢
  have e1 : decide (p < 1) = false := by simp; omega
  have e2 : decide (8 < p) = false := by simp; omega
  have d1 : decide (k < 1) = false := by simp; omega
  have d2 : decide (9 < k) = false := by simp; omega
  have d3 : decide ((4 : Int) < (cs.length : Int)) = true := by simp; omega
  clear hp
  go_enter Tryz.func63, Tryz.ntmps63
  go_wp2_with fail
  go_ret
  exact ⟨rfl, below_alloc _ _⟩
theorem op_cells {w : World} {b : Nat} {x0 x1 x2 x3 x4 : Value} {t : TypeId} {fr : Nat × Nat} (h : w.heap[b]? = some (.cells #[x0, x1, x2, x3, x4] t fr)) : w.cell? ⟨b, 0, none⟩ = some x0 ∧ w.cell? ⟨b, 1, none⟩ = some x1 ∧ w.cell? ⟨b, 2, none⟩ = some x2 ∧ w.cell? ⟨b, 3, none⟩ = some x3 ∧ w.cell? ⟨b, 4, none⟩ = some x4 := ⟨cell_of h 0, cell_of h 1, cell_of h 2, cell_of h 3, cell_of h 4⟩

set_option maxHeartbeats 1600000 in
theorem rcheck_main (o : OpD) (oa : Option Addr) (c : Nat) (p : Int) (w : World) (hp : okP p = true) (h1 : 1 ≤ o.kind) (h2 : o.kind ≤ 9) (hl : o.cases.length ≤ 4) (hA : CAt w oa o.cases) (x1 x2 x3 x4 : Bool) (hx1 : upB o.a (mA o.kind p) = x1) (hx2 : upB o.b (mB o.kind) = x2) (hx3 : (o.kind == 6) = x3) (hx4 : (o.def_ || decide (0 < o.cases.length)) = x4) :
    Calls Tryz.prog 63 #[.agg #[.int .i64 o.kind, .int .i64 o.a, .int .i64 o.b, .slice oa o.cases.length c, .bool o.def_], .int .i64 p] w fun r w' => r = .returned (.int .i64 (bif x1 && x2 && (x3 || !x4) && o.cases.all okC then 0 else 4)) ∧ Below w.heap.size w w' := by
  obtain ⟨k, a, b, cs, d⟩ := o
  simp only at h1 h2 hl hA hx1 hx2 hx3 hx4 ⊢
  obtain ⟨p1, p2⟩ := (okP_iff p).1 hp
  have HA := hide hA
  have X1 := hide hx1
  have X2 := hide hx2
  have e1 : decide (p < 1) = false := by simp; omega
  have e2 : decide (8 < p) = false := by simp; omega
  have d1 : decide (k < 1) = false := by simp; omega
  have d2 : decide (9 < k) = false := by simp; omega
  have d3 : decide ((4 : Int) < (cs.length : Int)) = false := by simp; omega
  have d4 : (k != 6) = !x3 := by rw [← hx3]; rfl
  have i0 := ixA k h1 h2
  have i1 := ixB k h1 h2
  have WA := hide (fun w => withinA_is k a p x1 h1 h2 hx1 w)
  have WB := hide (fun w => withinB_is k b p x2 h1 h2 hx2 w)
  have RW := hide (fun w => row_any k h1 h2 w)
  generalize sA k = u at WA RW i0 i1
  generalize sB k = v at WB RW i0 i1
  clear hp hA hx1 hx2 X1 X2
  cases x1
  · clear hx3 hx4 d4
    go_enter Tryz.func63, Tryz.ntmps63
    go_wp2_with fail
    refine (RW.out _).mono ?_
    rintro r w1 ⟨rfl, br⟩
    have P1 := hide (heap_below (heap_new w (.cells #[.int .i64 k, .int .i64 a, .int .i64 b, .slice oa cs.length c, .bool d] 44)) br)
    have B1 := hide (btr (below_alloc _ _) br)
    obtain ⟨y0, y1, y2, y3, y4⟩ := op_cells P1.out
    have HA1 := hide (HA.out.below B1.out)
    clear br
    go_wp2_with fail
    go_quiet ((first | (go_at_call_of 90 (Value.int IntKind.i64 a); exact Calls.quiet_of_same (WA.out _)) | (go_at_call_of 90 (Value.int IntKind.i64 b); exact Calls.quiet_of_same (WB.out _))))
    all_goals
      go_wp2_with fail
      go_ret
      exact ⟨rfl, btr B1.out (bdrew _ _)⟩
  cases x2
  · clear hx3 hx4 d4
    go_enter Tryz.func63, Tryz.ntmps63
    go_wp2_with fail
    refine (RW.out _).mono ?_
    rintro r w1 ⟨rfl, br⟩
    have P1 := hide (heap_below (heap_new w (.cells #[.int .i64 k, .int .i64 a, .int .i64 b, .slice oa cs.length c, .bool d] 44)) br)
    have B1 := hide (btr (below_alloc _ _) br)
    obtain ⟨y0, y1, y2, y3, y4⟩ := op_cells P1.out
    have HA1 := hide (HA.out.below B1.out)
    clear br
    go_wp2_with fail
    go_quiet ((first | (go_at_call_of 90 (Value.int IntKind.i64 a); exact Calls.quiet_of_same (WA.out _)) | (go_at_call_of 90 (Value.int IntKind.i64 b); exact Calls.quiet_of_same (WB.out _))))
    all_goals
      go_wp2_with fail
      go_ret
      exact ⟨rfl, btr B1.out (bdrew _ _)⟩
  go_enter Tryz.func63, Tryz.ntmps63
  go_wp2_with fail
  refine (RW.out _).mono ?_
  rintro r w1 ⟨rfl, br⟩
  have P1 := hide (heap_below (heap_new w (.cells #[.int .i64 k, .int .i64 a, .int .i64 b, .slice oa cs.length c, .bool d] 44)) br)
  have B1 := hide (btr (below_alloc _ _) br)
  obtain ⟨y0, y1, y2, y3, y4⟩ := op_cells P1.out
  have HA1 := hide (HA.out.below B1.out)
  clear br
  go_wp2_with fail
  go_quiet ((first | (go_at_call_of 90 (Value.int IntKind.i64 a); exact Calls.quiet_of_same (WA.out _)) | (go_at_call_of 90 (Value.int IntKind.i64 b); exact Calls.quiet_of_same (WB.out _))))
  cases x3
  · cases x4
    · have hd : d = false := by
        cases d
        · rfl
        · simp at hx4
      have hc0 : cs = [] := by
        rw [hd] at hx4
        simpa using hx4
      subst hd hc0
      clear hx4 hx3
      go_wp2_with fail
      refine wp_loop_rounds 1 ?_
      rw [rounds_succ]
      go_wp2
      go_ret
      exact ⟨rfl, by first | exact btr B1.out (bdrew _ _) | exact btr B1.out (by rw [World.drewN_drewN]; exact bdrew _ _) | exact B1.out⟩
    · clear hx3
      cases cs with
      | nil =>
        have hd : d = true := by simpa using hx4
        subst hd
        clear hx4
        go_wp2_with fail
        go_ret
        exact ⟨rfl, by first | exact btr B1.out (bdrew _ _) | exact btr B1.out (by rw [World.drewN_drewN]; exact bdrew _ _) | exact B1.out⟩
      | cons x t =>
        clear hx4
        go_wp2_with fail
        go_ret
        exact ⟨rfl, by first | exact btr B1.out (bdrew _ _) | exact btr B1.out (by rw [World.drewN_drewN]; exact bdrew _ _) | exact B1.out⟩
  · clear hx4 hx3
    go_wp2_with fail
    go_loopw [63] (fun i wr => ∃ j : Nat, j ≤ cs.length ∧ i = .int .i64 (j : Int) ∧ (∀ q x, q < j → cs[q]? = some x → okC x = true) ∧ Below w.heap.size w wr) (fun i _ => cs.length - (intOf i).toNat)
    case atStart => exact ⟨0, Nat.zero_le _, rfl, fun q x hq => absurd hq (Nat.not_lt_zero _), btr B1.out (bdrew _ _)⟩
    case round =>
      obtain ⟨j, hj, rfl, hall, hb⟩ := hrel
      have HK := hide hall
      have HB := hide hb
      clear hall hb
      by_cases hlt : j < cs.length
      · have hlt' : decide ((j : Int) < (cs.length : Int)) = true := by simp; omega
        obtain ⟨x, hx⟩ : ∃ x, cs[j]? = some x := ⟨cs[j], by simp [hlt]⟩
        obtain ⟨b', off, rfl, q1, q2, q3⟩ := (HA.out.below HB.out) j x hx
        have HX := hide hx
        clear hx
        obtain ⟨sd, ch, vl⟩ := x
        simp only at q1 q2 q3
        obtain ⟨u7, hu7⟩ : ∃ u, upB ch 7 = u := ⟨_, rfl⟩
        obtain ⟨u99, hu99⟩ : ∃ u, upB vl 99 = u := ⟨_, rfl⟩
        have C1 : Hid (∀ w, Calls Tryz.prog 90 #[.int .i64 ch, .int .u8 99, .int .i64 0] w fun r w' => r = .returned (.bool u7) ∧ w' = w) := fun w => rchan ch _ hu7 w
        have C2 : Hid (∀ w, Calls Tryz.prog 90 #[.int .i64 vl, .int .u8 118, .int .i64 0] w fun r w' => r = .returned (.bool u99) ∧ w' = w) := fun w => rval vl _ hu99 w
        have H7 := hide hu7
        have H99 := hide hu99
        clear hu7 hu99
        cases u7
        · have HO : Hid (okC ⟨sd, ch, vl⟩ = false) := by show _ = _; simp only [okC]; rw [H7.out]; rfl
          go_wp2_with (first | (go_at_call_of 90 (Value.int IntKind.u8 99); refine (C1.out _).mono ?_; rintro r w' ⟨rfl, rfl⟩) | (go_at_call_of 90 (Value.int IntKind.u8 118); refine (C2.out _).mono ?_; rintro r w' ⟨rfl, rfl⟩))
          all_goals
            go_ret
            exact ⟨by rw [all_no HX.out HO.out]; simp, btr HB.out (below_alloc _ _)⟩
        · cases sd
          · cases hz : vl == 0
            · have hz' : (vl != 0) = true := by simp [bne, hz]
              have HO : Hid (okC ⟨false, ch, vl⟩ = false) := by show _ = _; simp only [okC]; rw [H7.out]; simp only [cond_false, Bool.true_and]; simp at hz; simp [upB]; omega
              go_wp2_with (first | (go_at_call_of 90 (Value.int IntKind.u8 99); refine (C1.out _).mono ?_; rintro r w' ⟨rfl, rfl⟩) | (go_at_call_of 90 (Value.int IntKind.u8 118); refine (C2.out _).mono ?_; rintro r w' ⟨rfl, rfl⟩))
              all_goals
                go_ret
                exact ⟨by rw [all_no HX.out HO.out]; simp, btr HB.out (below_alloc _ _)⟩
            · have hz' : (vl != 0) = false := by simp [bne, hz]
              have HO : Hid (okC ⟨false, ch, vl⟩ = true) := by show _ = _; simp only [okC]; rw [H7.out]; simp only [cond_false, Bool.true_and]; simp at hz; simp [upB]; omega
              go_wp2_with (first | (go_at_call_of 90 (Value.int IntKind.u8 99); refine (C1.out _).mono ?_; rintro r w' ⟨rfl, rfl⟩) | (go_at_call_of 90 (Value.int IntKind.u8 118); refine (C2.out _).mono ?_; rintro r w' ⟨rfl, rfl⟩))
              all_goals
                go_roundw
                case rel => exact ⟨j + 1, by omega, by go_num, fun q y hq hy => by
                    by_cases e : q = j
                    · subst e
                      have := HX.out
                      rw [hy] at this
                      simp at this
                      subst this
                      exact HO.out
                    · exact HK.out q y (by omega) hy, btr HB.out (below_alloc _ _)⟩
                case measure => simp [intOf]; omega
          · cases u99
            · have HO : Hid (okC ⟨true, ch, vl⟩ = false) := by show _ = _; simp only [okC]; rw [H7.out]; simp only [cond_true, Bool.true_and]; exact H99.out
              go_wp2_with (first | (go_at_call_of 90 (Value.int IntKind.u8 99); refine (C1.out _).mono ?_; rintro r w' ⟨rfl, rfl⟩) | (go_at_call_of 90 (Value.int IntKind.u8 118); refine (C2.out _).mono ?_; rintro r w' ⟨rfl, rfl⟩))
              all_goals
                go_ret
                exact ⟨by rw [all_no HX.out HO.out]; simp, btr HB.out (below_alloc _ _)⟩
            · have HO : Hid (okC ⟨true, ch, vl⟩ = true) := by show _ = _; simp only [okC]; rw [H7.out]; simp only [cond_true, Bool.true_and]; exact H99.out
              go_wp2_with (first | (go_at_call_of 90 (Value.int IntKind.u8 99); refine (C1.out _).mono ?_; rintro r w' ⟨rfl, rfl⟩) | (go_at_call_of 90 (Value.int IntKind.u8 118); refine (C2.out _).mono ?_; rintro r w' ⟨rfl, rfl⟩))
              all_goals
                go_roundw
                case rel => exact ⟨j + 1, by omega, by go_num, fun q y hq hy => by
                    by_cases e : q = j
                    · subst e
                      have := HX.out
                      rw [hy] at this
                      simp at this
                      subst this
                      exact HO.out
                    · exact HK.out q y (by omega) hy, btr HB.out (below_alloc _ _)⟩
                case measure => simp [intOf]; omega
      · have hlt' : decide ((j : Int) < (cs.length : Int)) = false := by simp; omega
        go_wp2_with fail
        go_ret
        exact ⟨by rw [all_yes (fun q x hq => HK.out q x (by have := (List.getElem?_eq_some_iff.1 hq).1; omega) hq)]; rfl, HB.out⟩

theorem rcheck_any (o : OpD) (oa : Option Addr) (c : Nat) (p : Int) (w : World) (hA : CAt w oa o.cases) (hm : o.cases.length ≤ maxLen) :
    Calls Tryz.prog 63 #[.agg #[.int .i64 o.kind, .int .i64 o.a, .int .i64 o.b, .slice oa o.cases.length c, .bool o.def_], .int .i64 p] w fun r w' => r = .returned (.int .i64 (chk o p)) ∧ Below w.heap.size w w' := by
  unfold chk
  by_cases h1 : (okP p && (decide (1 ≤ o.kind) && decide (o.kind ≤ 9))) = false
  · rw [if_pos h1]
    exact rcheck_arg o oa c p w h1
  · rw [if_neg h1]
    have h1' : okP p = true ∧ 1 ≤ o.kind ∧ o.kind ≤ 9 := by simpa using h1
    obtain ⟨hp, hk1, hk2⟩ := h1'
    by_cases h2 : 4 < o.cases.length
    · rw [if_pos h2]
      exact rcheck_long o oa c p w hp hk1 hk2 h2 hm
    · rw [if_neg h2]
      refine (rcheck_main o oa c p w hp hk1 hk2 (by omega) hA _ _ _ _ rfl rfl rfl rfl).mono ?_
      rintro r w' ⟨rfl, hb⟩
      refine ⟨?_, hb⟩
      cases x1 : upB o.a (mA o.kind p) && upB o.b (mB o.kind)
      · simp
      · rw [if_neg (by simp)]
        by_cases h6 : o.kind = 6
        · rw [if_neg (fun q => q.1 h6)]
          have : (o.kind == 6) = true := by simpa using h6
          rw [this]
          cases o.cases.all okC <;> simp
        · have : (o.kind == 6) = false := by simpa using h6
          rw [this]
          cases h4 : (o.def_ || decide (0 < o.cases.length))
          · rw [if_neg (fun q => by simp at q)]
            cases o.cases.all okC <;> simp
          · rw [if_pos ⟨h6, rfl⟩]
            simp
/-- a list is answered -/
def NA (r : Ending) (w' : World) (l : List Int) : Prop := ∃ oa c, r = .returned (.slice oa l.length c) ∧ At w' oa l
end De
end Go.Proofs.YtddchcekljndmaaGreat
/- The reference's Check of a script, over this seat's program. -/
namespace Go.Proofs.YtddchcekljndmaaGreat
open Go.ChangeShapes Go.WideShapes Go.ChangeAt Go.RowKit
namespace Sh
open De Ba Re

section
variable {T M : Int} {ps : List (List OpD)} {pl dr : List Int}
theorem schk_1 (h : T < 1 ∨ 256 < T ∨ M < 1 ∨ 1048576 < M) : schk ⟨T, M, ps, pl, dr⟩ = 1 := by
  have : ((decide (1 ≤ T) && decide (T ≤ 256)) && (decide (1 ≤ M) && decide (M ≤ 1048576))) = false := by
    simp
    omega
  simp only [schk, this]
  rfl
theorem good_tm (h : (1 ≤ T ∧ T ≤ 256) ∧ 1 ≤ M ∧ M ≤ 1048576) : ((decide (1 ≤ T) && decide (T ≤ 256)) && (decide (1 ≤ M) && decide (M ≤ 1048576))) = true := by
  simp
  omega
theorem schk_2 (h : (1 ≤ T ∧ T ≤ 256) ∧ 1 ≤ M ∧ M ≤ 1048576) (h2 : isl ps pl.length dr.length = true) : schk ⟨T, M, ps, pl, dr⟩ = 2 := by
  simp only [schk, good_tm h, h2]
  rfl
theorem schk_4a (h : (1 ≤ T ∧ T ≤ 256) ∧ 1 ≤ M ∧ M ≤ 1048576) (h2 : isl ps pl.length dr.length = false) (h3 : ps.length = 0) : schk ⟨T, M, ps, pl, dr⟩ = 4 := by
  simp only [schk, good_tm h, h2]
  simp [h3]
theorem schk_4c (h : (1 ≤ T ∧ T ≤ 256) ∧ 1 ≤ M ∧ M ≤ 1048576) (h2 : isl ps pl.length dr.length = false) (h3 : ari ps.length ps = false) : schk ⟨T, M, ps, pl, dr⟩ = 4 := by
  simp only [schk, good_tm h, h2, h3]
  simp
theorem schk_4b (h : (1 ≤ T ∧ T ≤ 256) ∧ 1 ≤ M ∧ M ≤ 1048576) (h2 : isl ps pl.length dr.length = false) (h3 : ab (-1) 1000 pl = false ∨ ab 0 1000 dr = false) : schk ⟨T, M, ps, pl, dr⟩ = 4 := by
  have : (ab (-1) 1000 pl && ab 0 1000 dr) = false := by
    rcases h3 with h3 | h3 <;> simp [h3]
  simp only [schk, good_tm h, h2, this]
  cases (!(!decide (ps.length = 0) && ari ps.length ps)) <;> rfl
theorem ab_no {lo hi : Int} {l : List Int} {k : Nat} (hk : k < l.length) (h : nth l k < lo ∨ hi < nth l k) : ab lo hi l = false := by
  rw [← Bool.not_eq_true]
  intro e
  have := ab_nth.1 e k hk
  omega
theorem ret_int {a b : Int} (h : a = b) : Ending.returned (.int .i64 b) = Ending.returned (.int .i64 a) := by rw [h]
end

set_option maxRecDepth 100000 in
set_option maxHeartbeats 6400000 in
theorem rscheck_any (T M : Int) (ps : List (List OpD)) (pl dr : List Int) (pa la da : Option Addr) (pc lc dc : Nat) (w : World) (hS : SAt w ⟨T, M, ps, pl, dr⟩ pa la da) :
    Calls Tryz.prog 28 #[.agg #[.int .i64 T, .int .i64 M, .slice pa ps.length pc, .slice la pl.length lc, .slice da dr.length dc]] w fun r w' => r = .returned (.int .i64 (schk ⟨T, M, ps, pl, dr⟩)) ∧ Below w.heap.size w w' := by
  have S0 := hide (hS.below (below_alloc w (.cells #[.int .i64 T, .int .i64 M, .slice pa ps.length pc, .slice la pl.length lc, .slice da dr.length dc] 25)))
  have B0 := hide (below_alloc w (.cells #[.int .i64 T, .int .i64 M, .slice pa ps.length pc, .slice la pl.length lc, .slice da dr.length dc] 25))
  have X0 := hide (heap_new w (.cells #[.int .i64 T, .int .i64 M, .slice pa ps.length pc, .slice la pl.length lc, .slice da dr.length dc] 25))
  have h1 := hS.h1
  have h2 := hS.h2
  have h3 := hS.h3
  unfold maxLen at h1 h2 h3
  simp only at h1 h2 h3
  clear hS
  by_cases a1 : T < 1
  · have g1 : decide (T < 1) = true := by simpa using a1
    go_enter Tryz.func28, Tryz.ntmps28
    go_wp2_with fail
    go_ret
    exact ⟨ret_int (schk_1 (Or.inl a1)), B0.out⟩
  have g1 : decide (T < 1) = false := by simpa using a1
  by_cases a2 : 256 < T
  · have g2 : decide (256 < T) = true := by simpa using a2
    go_enter Tryz.func28, Tryz.ntmps28
    go_wp2_with fail
    go_ret
    exact ⟨ret_int (schk_1 (Or.inr (Or.inl a2))), B0.out⟩
  have g2 : decide (256 < T) = false := by simpa using a2
  by_cases a3 : M < 1
  · have g3 : decide (M < 1) = true := by simpa using a3
    go_enter Tryz.func28, Tryz.ntmps28
    go_wp2_with fail
    go_ret
    exact ⟨ret_int (schk_1 (Or.inr (Or.inr (Or.inl a3)))), B0.out⟩
  have g3 : decide (M < 1) = false := by simpa using a3
  by_cases a4 : 1048576 < M
  · have g4 : decide (1048576 < M) = true := by simpa using a4
    go_enter Tryz.func28, Tryz.ntmps28
    go_wp2_with fail
    go_ret
    exact ⟨ret_int (schk_1 (Or.inr (Or.inr (Or.inr a4)))), B0.out⟩
  have g4 : decide (1048576 < M) = false := by simpa using a4
  have TM : Hid ((1 ≤ T ∧ T ≤ 256) ∧ 1 ≤ M ∧ M ≤ 1048576) := by
    show _ ∧ _
    omega
  clear a1 a2 a3 a4
  by_cases n1 : 8 < ps.length
  · have q1 : decide (8 < (ps.length : Int)) = true := by simp; omega
    go_enter Tryz.func28, Tryz.ntmps28
    go_wp2_with fail
    go_ret
    exact ⟨ret_int (schk_2 TM.out (by simp [isl, n1])), B0.out⟩
  have q1 : decide (8 < (ps.length : Int)) = false := by simp; omega
  by_cases n2 : 200 < pl.length
  · have q2 : decide (200 < (pl.length : Int)) = true := by simp; omega
    go_enter Tryz.func28, Tryz.ntmps28
    go_wp2_with fail
    go_ret
    exact ⟨ret_int (schk_2 TM.out (by simp [isl, n2])), B0.out⟩
  have q2 : decide (200 < (pl.length : Int)) = false := by simp; omega
  by_cases n3 : 64 < dr.length
  · have q3 : decide (64 < (dr.length : Int)) = true := by simp; omega
    go_enter Tryz.func28, Tryz.ntmps28
    go_wp2_with fail
    go_ret
    exact ⟨ret_int (schk_2 TM.out (by simp [isl, n3])), B0.out⟩
  have q3 : decide (64 < (dr.length : Int)) = false := by simp; omega
  go_enter Tryz.func28, Tryz.ntmps28
  go_wp2_with fail
  generalize w.alloc (.cells #[.int .i64 T, .int .i64 M, .slice pa ps.length pc, .slice la pl.length lc, .slice da dr.length dc] 25) = W at S0 B0 X0 ⊢
  obtain ⟨x0, x1, x2, x3, x4⟩ := sc_cells X0.out
  go_loop [50] (fun i => ∃ k : Nat, k ≤ ps.length ∧ i = .int .i64 k ∧ ∀ (j : Nat) (q : List OpD), j < k → ps[j]? = some q → q.length ≤ 32) (fun i => ps.length - (intOf i).toNat)
  case atStart => exact ⟨0, Nat.zero_le _, rfl, fun j q hj => absurd hj (Nat.not_lt_zero _)⟩
  case round =>
    obtain ⟨k, hk, rfl, hall⟩ := hrel
    have HE := hide hall
    clear hall
    by_cases hlt : k < ps.length
    · have hlt' : (k : Int) < (ps.length : Int) := by omega
      obtain ⟨q, hq⟩ : ∃ q, ps[k]? = some q := ⟨ps[k], by simp [hlt]⟩
      obtain ⟨b, off, qa, qc, e1, c1, hO, m1⟩ := S0.out.ps k q hq
      subst e1
      have HQ := hide hq
      unfold maxLen at m1
      clear hq hO
      by_cases hl : 32 < q.length
      · have hl' : decide (32 < (q.length : Int)) = true := by simp; omega
        go_wp2_with fail
        go_ret
        exact ⟨ret_int (schk_2 TM.out (isl_long HQ.out hl)), B0.out⟩
      · have hl' : decide (32 < (q.length : Int)) = false := by simp; omega
        go_wp2_with fail
        go_round
        case rel => exact ⟨k + 1, by omega, by go_num, fun j x hj hx => by
          by_cases e : j = k
          · subst e; rw [HQ.out] at hx; cases hx; omega
          · exact HE.out j x (by omega) hx⟩
        case measure => simp [intOf]; omega
    · have hlt' : ¬ ((k : Int) < (ps.length : Int)) := by omega
      have IS : Hid (isl ps pl.length dr.length = false) := by
        show _ = _
        rw [isl_short fun j q hq => HE.out j q (by have := (List.getElem?_eq_some_iff.1 hq).1; omega) hq]
        simp
        omega
      clear hlt
      by_cases z : ps.length = 0
      · have Z := hide z
        have z' : ((ps.length : Int) == 0) = true := by simpa using z
        clear z
        go_wp2_with fail
        go_ret
        exact ⟨ret_int (schk_4a TM.out IS.out Z.out), B0.out⟩
      have z' : ((ps.length : Int) == 0) = false := by simpa using z
      clear HE
      go_wp2_with fail
      clear hlt' hk
      go_loopw [65] (fun i wr => ∃ k : Nat, k ≤ ps.length ∧ i = .int .i64 k ∧ (∀ (j : Nat) (q : List OpD), j < k → ps[j]? = some q → ∀ (i : Nat) (o : OpD), q[i]? = some o → chk o ps.length = 0) ∧ Below W.heap.size W wr) (fun i _ => ps.length - (intOf i).toNat)
      case atStart => exact ⟨0, Nat.zero_le _, rfl, fun j q hj => absurd hj (Nat.not_lt_zero _), Below.refl _ _⟩
      case round =>
        rename World => w0
        obtain ⟨k, hk, rfl, hall, bw⟩ := hrel
        have HE := hide hall
        have BW := hide bw
        clear hall bw
        by_cases hlt : k < ps.length
        · have hlt' : (k : Int) < (ps.length : Int) := by omega
          obtain ⟨q, hq⟩ : ∃ q, ps[k]? = some q := ⟨ps[k], by simp [hlt]⟩
          obtain ⟨b, off, qa, qc, e1, hc, hO, hm⟩ := (S0.out.ps.below BW.out) k q hq
          subst e1
          have HQ := hide hq
          have HO := hide hO
          unfold maxLen at hm
          clear hq hO
          go_wp2_with fail
          go_loopw [71] (fun i wr => ∃ j : Nat, j ≤ q.length ∧ i = .int .i64 j ∧ (∀ (t : Nat) (o : OpD), t < j → q[t]? = some o → chk o ps.length = 0) ∧ Below w0.heap.size w0 wr) (fun i _ => q.length - (intOf i).toNat)
          case atStart => exact ⟨0, Nat.zero_le _, rfl, fun j q hj => absurd hj (Nat.not_lt_zero _), Below.refl _ _⟩
          case round =>
            obtain ⟨j, hj, rfl, hall, bw2⟩ := hrel
            have HF := hide hall
            have B2 := hide bw2
            clear hall bw2
            by_cases hjl : j < q.length
            · have hjl' : (j : Int) < (q.length : Int) := by omega
              obtain ⟨o, ho⟩ : ∃ o, q[j]? = some o := ⟨q[j], by simp [hjl]⟩
              obtain ⟨b', off', ca, cc, e2, ⟨y0, y1, y2, y3, y4⟩, hC, hM⟩ := (HO.out.below B2.out) j o ho
              subst e2
              have HX := hide ho
              have HC := hide hC
              have HM := hide hM
              clear ho hC hM
              have B3 := hide (btr B2.out (below_alloc wr (.cells #[.int .i64 o.kind, .int .i64 o.a, .int .i64 o.b, .slice ca o.cases.length cc, .bool o.def_] 44)))
              have C3 := hide (HC.out.below (below_alloc wr (.cells #[.int .i64 o.kind, .int .i64 o.a, .int .i64 o.b, .slice ca o.cases.length cc, .bool o.def_] 44)))
              have X3 := hide (heap_below (heap_below X0.out BW.out) B3.out)
              obtain ⟨v0, v1, v2, v3, v4⟩ := sc_cells X3.out
              cases hz : chk o ps.length == 0
              · have hz' : (chk o ps.length != 0) = true := by simp [bne, hz]
                have HZ := hide hz
                clear hz
                go_wp2_with fail
                refine (rcheck_any o ca cc _ _ C3.out HM.out).mono ?_
                rintro r w4 ⟨rfl, b4⟩
                have B4 := hide (btr B3.out b4)
                clear b4
                go_wp2_with fail
                go_ret
                exact ⟨ret_int (schk_4c TM.out IS.out (ari_no HQ.out HX.out HZ.out)), btr B0.out (btr BW.out B4.out)⟩
              · have hz' : (chk o ps.length != 0) = false := by simp [bne, hz]
                have HZ : Hid (chk o ps.length = 0) := by show _ = _; simpa using hz
                clear hz
                go_wp2_with fail
                refine (rcheck_any o ca cc _ _ C3.out HM.out).mono ?_
                rintro r w4 ⟨rfl, b4⟩
                have B4 := hide (btr B3.out b4)
                clear b4
                go_wp2_with fail
                go_roundw
                case rel => exact ⟨j + 1, by omega, by go_num, fun t x ht hx => by
                  by_cases e : t = j
                  · subst e; rw [HX.out] at hx; cases hx; exact HZ.out
                  · exact HF.out t x (by omega) hx, B4.out⟩
                case measure => simp [intOf]; omega
            · have hjl' : ¬ ((j : Int) < (q.length : Int)) := by omega
              go_wp2_with fail
              go_roundw
              case rel =>
                exact ⟨k + 1, by omega, by go_num, fun t r ht hr i o ho => by
                  by_cases e : t = k
                  · subst e; rw [HQ.out] at hr; cases hr
                    exact HF.out i o (by have := (List.getElem?_eq_some_iff.1 ho).1; omega) ho
                  · exact HE.out t r (by omega) hr i o ho, btr BW.out B2.out⟩
              case measure => simp [intOf]; omega
        · have hlt' : ¬ ((k : Int) < (ps.length : Int)) := by omega
          have AR : Hid (ari ps.length ps = true) := ari_yes fun t q hq j o ho => HE.out t q (by have := (List.getElem?_eq_some_iff.1 hq).1; omega) hq j o ho
          have X5 := hide (heap_below X0.out BW.out)
          have L5 := hide (S0.out.below BW.out).pl
          have D5 := hide (S0.out.below BW.out).dr
          have B5 := hide (btr B0.out BW.out)
          clear HE S0 B0 X0 BW x0 x1 x2 x3 x4
          obtain ⟨x0, x1, x2, x3, x4⟩ := sc_cells X5.out
          go_wp2_with fail
          go_loop [86] (fun i => ∃ k : Nat, k ≤ pl.length ∧ i = .int .i64 k ∧ ∀ j, j < k → -1 ≤ nth pl j ∧ nth pl j ≤ 1000) (fun i => pl.length - (intOf i).toNat)
          case atStart => exact ⟨0, Nat.zero_le _, rfl, fun j hj => absurd hj (Nat.not_lt_zero _)⟩
          case round =>
            obtain ⟨k, hk, rfl, hall⟩ := hrel
            have HE := hide hall
            clear hall
            by_cases hlt : k < pl.length
            · have hlt' : (k : Int) < (pl.length : Int) := by omega
              obtain ⟨b1, o1, e, hc1⟩ := L5.out k hlt
              subst e
              by_cases u1 : nth pl k < -1
              · have u1' : decide (nth pl k < -1) = true := by simpa using u1
                go_wp2_with fail
                go_ret
                exact ⟨ret_int (schk_4b TM.out IS.out (Or.inl (ab_no hlt (Or.inl u1)))), B5.out⟩
              have u1' : decide (nth pl k < -1) = false := by simpa using u1
              by_cases u2 : 1000 < nth pl k
              · have u2' : decide (1000 < nth pl k) = true := by simpa using u2
                go_wp2_with fail
                go_ret
                exact ⟨ret_int (schk_4b TM.out IS.out (Or.inl (ab_no hlt (Or.inr u2)))), B5.out⟩
              have u2' : decide (1000 < nth pl k) = false := by simpa using u2
              go_wp2_with fail
              go_round
              case rel => exact ⟨k + 1, by omega, by go_num, fun j hj => by
                by_cases e : j = k
                · subst e; omega
                · exact HE.out j (by omega)⟩
              case measure => simp [intOf]; omega
            · have hlt' : ¬ ((k : Int) < (pl.length : Int)) := by omega
              have AP : Hid (ab (-1) 1000 pl = true) := ab_nth.2 fun j hj => HE.out j (by omega)
              clear HE
              go_wp2_with fail
              go_loop [100] (fun i => ∃ k : Nat, k ≤ dr.length ∧ i = .int .i64 k ∧ ∀ j, j < k → 0 ≤ nth dr j ∧ nth dr j ≤ 1000) (fun i => dr.length - (intOf i).toNat)
              case atStart => exact ⟨0, Nat.zero_le _, rfl, fun j hj => absurd hj (Nat.not_lt_zero _)⟩
              case round =>
                obtain ⟨k, hk, rfl, hall⟩ := hrel
                have HE := hide hall
                clear hall
                by_cases hlt : k < dr.length
                · have hlt' : (k : Int) < (dr.length : Int) := by omega
                  obtain ⟨b1, o1, e, hc1⟩ := D5.out k hlt
                  subst e
                  by_cases u1 : nth dr k < 0
                  · have u1' : decide (nth dr k < 0) = true := by simpa using u1
                    go_wp2_with fail
                    go_ret
                    exact ⟨ret_int (schk_4b TM.out IS.out (Or.inr (ab_no hlt (Or.inl u1)))), B5.out⟩
                  have u1' : decide (nth dr k < 0) = false := by simpa using u1
                  by_cases u2 : 1000 < nth dr k
                  · have u2' : decide (1000 < nth dr k) = true := by simpa using u2
                    go_wp2_with fail
                    go_ret
                    exact ⟨ret_int (schk_4b TM.out IS.out (Or.inr (ab_no hlt (Or.inr u2)))), B5.out⟩
                  have u2' : decide (1000 < nth dr k) = false := by simpa using u2
                  go_wp2_with fail
                  go_round
                  case rel => exact ⟨k + 1, by omega, by go_num, fun j hj => by
                    by_cases e : j = k
                    · subst e; omega
                    · exact HE.out j (by omega)⟩
                  case measure => simp [intOf]; omega
                · have hlt' : ¬ ((k : Int) < (dr.length : Int)) := by omega
                  have AD : Hid (ab 0 1000 dr = true) := ab_nth.2 fun j hj => HE.out j (by omega)
                  have F : Hid (schk ⟨T, M, ps, pl, dr⟩ = 0) := by
                    show _ = _
                    have e3 : decide (ps.length = 0) = false := by simpa using z
                    unfold schk
                    simp only [good_tm TM.out, IS.out, AR.out, AP.out, AD.out, e3]
                    rfl
                  go_wp2_with fail
                  go_ret
                  exact ⟨ret_int F.out, B5.out⟩
end Sh
end Go.Proofs.YtddchcekljndmaaGreat
