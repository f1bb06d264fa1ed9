/- Package sheet: Copy, over this seat's program. -/
import Derived.Test.YtgnhophlnbpcgaaHj
namespace Go.Proofs.Ytgnhophlnbpcgaa
open Go.ChangeShapes Go.WideShapes Go.ChangeAt Go.RowKit
namespace Sh
open De Ba Re

/-- a copied program's row: of the first k operations the cases are copied, too -/
def OM (w : World) (N0 g k : Nat) (l : List OpD) : Prop :=
  ∀ (t : Nat) (o : OpD), l[t]? = some o → ∃ ca cc, (w.cell? ⟨g, t * 5, none⟩ = some (.int .i64 o.kind) ∧ w.cell? ⟨g, t * 5 + 1, none⟩ = some (.int .i64 o.a) ∧ w.cell? ⟨g, t * 5 + 2, none⟩ = some (.int .i64 o.b) ∧ w.cell? ⟨g, t * 5 + 3, none⟩ = some (.slice ca o.cases.length cc) ∧ w.cell? ⟨g, t * 5 + 4, none⟩ = some (.bool o.def_)) ∧ CAt w ca o.cases ∧ (t < k → ∀ a, ca = some a → g + 1 ≤ a.block) ∧ (¬ t < k → ∀ a, ca = some a → o.cases ≠ [] → a.block < N0) ∧ o.cases.length ≤ 3000
theorem cat_lt {w : World} {oa : Option Addr} {l : List Cs} (h : CAt w oa l) (hl : l ≠ []) (a : Addr) (e : oa = some a) : a.block < w.heap.size := by
  cases l with
  | nil => exact absurd rfl hl
  | cons x t =>
    obtain ⟨b, off, rfl, h1, _⟩ := h 0 x rfl
    cases e
    exact World.block_lt_of_cell? w _ h1
theorem cat_kb' {R : Nat} {w w' : World} {oa : Option Addr} {l : List Cs} (k : De.KB R w w') (h : CAt w oa l) (hb : ∀ a, oa = some a → l ≠ [] → a.block ≠ R) : CAt w' oa l := by
  intro j x hj
  obtain ⟨b, off, rfl, h1, h2, h3⟩ := h j x hj
  have hne : l ≠ [] := by
    rintro rfl
    simp at hj
  exact ⟨b, off, rfl, kb_cell k h1 (hb _ rfl hne), kb_cell k h2 (hb _ rfl hne), kb_cell k h3 (hb _ rfl hne)⟩
theorem OM.start {w wr : World} {oa : Option Addr} {q : List OpD} {cs : List Value} (hO : OAt w oa q) (hb : Below w.heap.size w wr) (hl : cs.length = q.length * 5) (hA : CsAt wr oa cs) (h3 : ∀ o ∈ q, o.cases.length ≤ 3000) : OM (wr.alloc (.cells cs.toArray 24)) w.heap.size wr.heap.size 0 q := by
  intro t o ht
  obtain ⟨b, off, ca, cc, rfl, ⟨q0, q1, q2, q3, q4⟩, hC, _⟩ := hO t o ht
  have htl := (List.getElem?_eq_some_iff.1 ht).1
  refine ⟨ca, cc, ⟨?_, ?_, ?_, ?_, ?_⟩, (hC.below hb).below (below_alloc _ _), fun h => absurd h (Nat.not_lt_zero _), fun _ a e hne => cat_lt hC hne a e, h3 o (List.mem_of_getElem? ht)⟩
  · rw [row_cell]; exact cs_get hA (by omega) (cellB q0 hb)
  · rw [row_cell]; exact cs_get hA (by omega) (by rw [← Nat.add_assoc]; exact cellB q1 hb)
  · rw [row_cell]; exact cs_get hA (by omega) (by rw [← Nat.add_assoc]; exact cellB q2 hb)
  · rw [row_cell]; exact cs_get hA (by omega) (by rw [← Nat.add_assoc]; exact cellB q3 hb)
  · rw [row_cell]; exact cs_get hA (by omega) (by rw [← Nat.add_assoc]; exact cellB q4 hb)
theorem OM.below {w w' : World} {N0 g k : Nat} {l : List OpD} (h : OM w N0 g k l) (hb : Below w.heap.size w w') : OM w' N0 g k l := by
  intro t o ht
  obtain ⟨ca, cc, ⟨q0, q1, q2, q3, q4⟩, hC, h1, h2, h3⟩ := h t o ht
  exact ⟨ca, cc, ⟨cellB q0 hb, cellB q1 hb, cellB q2 hb, cellB q3 hb, cellB q4 hb⟩, hC.below hb, h1, h2, h3⟩
theorem OM.step {w : World} {N0 g k : Nat} {l : List OpD} {o : OpD} (h : OM w N0 g k l) (hN : N0 ≤ g) (ho : l[k]? = some o) (ca : Addr) (cc : Nat) (hC : CAt w (some ca) o.cases) (hg : g + 1 ≤ ca.block) : OM (w.setCell ⟨g, k * 5 + 3, none⟩ (.slice (some ca) o.cases.length cc)) N0 g (k + 1) l := by
  have KG := (De.KB.refl g w).setCell (k * 5 + 3) (.slice (some ca) o.cases.length cc)
  have far : ∀ i v, i ≠ k * 5 + 3 → w.cell? ⟨g, i, none⟩ = some v → (w.setCell ⟨g, k * 5 + 3, none⟩ (.slice (some ca) o.cases.length cc)).cell? ⟨g, i, none⟩ = some v := fun i v hi hv => by
    exact (World.cell?_setCell_other w ⟨g, k * 5 + 3, none⟩ ⟨g, i, none⟩ _ (by intro e; injection e; omega)).trans hv
  intro t x ht
  obtain ⟨ca', cc', ⟨q0, q1, q2, q3, q4⟩, hC', h1, h2, h3⟩ := h t x ht
  by_cases e : t = k
  · subst e
    rw [ho] at ht
    cases ht
    exact ⟨some ca, cc, ⟨far _ _ (by omega) q0, far _ _ (by omega) q1, far _ _ (by omega) q2, World.cell?_setCell_same _ _ _ q3, far _ _ (by omega) q4⟩, cat_kb KG hC (fun a e => by cases e; omega), fun _ a e => by cases e; exact hg, fun hlt => absurd (Nat.lt_succ_self _) hlt, h3⟩
  · refine ⟨ca', cc', ⟨far _ _ (by omega) q0, far _ _ (by omega) q1, far _ _ (by omega) q2, far _ _ (by omega) q3, far _ _ (by omega) q4⟩, cat_kb' KG hC' ?_, fun hlt => h1 (by omega), fun hlt => h2 (by omega), h3⟩
    intro a ea hne
    by_cases ht2 : t < k
    · have := h1 ht2 a ea; omega
    · have := h2 ht2 a ea hne; omega
theorem OM.done {w : World} {N0 g k : Nat} {l : List OpD} (h : OM w N0 g k l) (hk : l.length ≤ k) : OF w (g + 1) g l := by
  intro t o ht
  obtain ⟨ca, cc, hq, hC, h1, _, h3⟩ := h t o ht
  have htl := (List.getElem?_eq_some_iff.1 ht).1
  exact ⟨ca, cc, hq, hC, h1 (by omega), h3⟩

/-- programs being copied: the first k are, of the others the row still has the old ones -/
def PM (w0 w : World) (N k : Nat) (arr : Array Value) (ps : List (List OpD)) : Prop :=
  PF w N arr (ps.take k) ∧ ∀ (t : Nat) (q : List OpD), k ≤ t → ps[t]? = some q → ∃ pa pc, arr[t]? = some (.slice pa q.length pc) ∧ OAt w0 pa q
theorem PF.below {w w' : World} {N : Nat} {arr : Array Value} {ps : List (List OpD)} (h : PF w N arr ps) (hb : Below w.heap.size w w') (hN : 0 < N) : PF w' N arr ps := h.kb (De.KB.of (R := 0) hb) hN
theorem PM.start {w wr : World} {oa : Option Addr} {ps : List (List OpD)} {cs : List Value} (hP : PAt w oa ps) (hb : Below w.heap.size w wr) (hl : cs.length = ps.length) (hA : CsAt wr oa cs) (W : World) (N : Nat) : PM w W N 0 cs.toArray ps := by
  refine ⟨fun t q ht => by simp at ht, fun t q _ ht => ?_⟩
  obtain ⟨b, off, pa, pc, rfl, h0, h1, _⟩ := hP t q ht
  have htl := (List.getElem?_eq_some_iff.1 ht).1
  exact ⟨pa, pc, by rw [List.getElem?_toArray]; exact cs_get hA (by omega) (cellB h0 hb), h1⟩
theorem PM.step {w0 w : World} {N k : Nat} {arr : Array Value} {ps : List (List OpD)} {q : List OpD} (h : PM w0 w N k arr ps) (hq : ps[k]? = some q) (hs : k < arr.size) (g c : Nat) (hof : OF w (g + 1) g q) (hN : N ≤ g) (hl : q.length ≤ 1000) : PM w0 w N (k + 1) (arr.setIfInBounds k (.slice (some ⟨g, 0, none⟩) q.length c)) ps := by
  have hk := (List.getElem?_eq_some_iff.1 hq).1
  refine ⟨?_, fun t x ht hx => ?_⟩
  · rw [List.take_add_one, hq]
    exact h.1.store k (by rw [List.length_take]; omega) hs g c q hof hN hl
  · obtain ⟨pa, pc, h1, h2⟩ := h.2 t x (by omega) hx
    exact ⟨pa, pc, by rw [Array.getElem?_setIfInBounds_ne (by omega)]; exact h1, h2⟩
theorem PM.below {w0 w w' : World} {N k : Nat} {arr : Array Value} {ps : List (List OpD)} (h : PM w0 w N k arr ps) (hb : Below w.heap.size w w') (hN : 0 < N) : PM w0 w' N k arr ps := ⟨h.1.below hb hN, h.2⟩
theorem PM.kb {w0 w w' : World} {N k R : Nat} {arr : Array Value} {ps : List (List OpD)} (h : PM w0 w N k arr ps) (hk : De.KB R w w') (hR : R < N) : PM w0 w' N k arr ps := ⟨h.1.kb hk hR, h.2⟩
theorem PF.mono {w : World} {N N' : Nat} {arr : Array Value} {ps : List (List OpD)} (h : PF w N arr ps) (hN : N' ≤ N) : PF w N' arr ps := by
  intro t q ht
  obtain ⟨g, c, h1, h2, h3, h4⟩ := h t q ht
  exact ⟨g, c, h1, h2, by omega, h4⟩
/-- what Copy keeps: the script boxed at P, the answer's room behind it, the programs at G -/
structure CC (w wr : World) (G : Nat) (v0 v1 v2 v3 v4 : Value) (arr : Array Value) (n : Nat) : Prop where
  bx : wr.heap[w.heap.size]? = some (.cells #[v0, v1, v2, v3, v4] 38 (0, 0))
  zr : wr.heap[w.heap.size + 1]? = some (.cells #[.int .i64 0, .int .i64 0, .slice none 0 0, .slice none 0 0, .slice none 0 0] 38 (0, 0))
  pr : wr.heap[G]? = some (.cells arr 56 (0, 0))
  sz : arr.size = n
  bel : Below w.heap.size w wr
  ne : w.heap.size + 1 < G
theorem CC.below {w wr wr' : World} {G : Nat} {v0 v1 v2 v3 v4 : Value} {arr : Array Value} {n : Nat} (h : CC w wr G v0 v1 v2 v3 v4 arr n) (hb : Below wr.heap.size wr wr') : CC w wr' G v0 v1 v2 v3 v4 arr n :=
  ⟨heap_below h.bx hb, heap_below h.zr hb, heap_below h.pr hb, h.sz, btr h.bel hb, h.ne⟩
theorem CC.other {w wr wr' : World} {G R : Nat} {v0 v1 v2 v3 v4 : Value} {arr : Array Value} {n : Nat} (h : CC w wr G v0 v1 v2 v3 v4 arr n) (k : De.KB R wr wr') (hR : G < R) : CC w wr' G v0 v1 v2 v3 v4 arr n := by
  have hn := h.ne
  exact ⟨k.heap h.bx (by omega), k.heap h.zr (by omega), k.heap h.pr (by omega), h.sz, De.KB.below h.bel k (by omega), hn⟩
theorem CC.store {w wr : World} {G : Nat} {v0 v1 v2 v3 v4 : Value} {arr : Array Value} {n : Nat} (h : CC w wr G v0 v1 v2 v3 v4 arr n) (k : Nat) (v : Value) : CC w (wr.setCell ⟨G, k, none⟩ v) G v0 v1 v2 v3 v4 (arr.setIfInBounds k v) n := by
  have hn := h.ne
  have K := (De.KB.refl G wr).setCell k v
  exact ⟨K.heap h.bx (by omega), K.heap h.zr (by omega), Ba.heap_setCell_same h.pr v, by rw [Array.size_setIfInBounds]; exact h.sz, De.KB.below h.bel K (by omega), hn⟩
theorem CC.box {w wr : World} {G : Nat} {v0 v1 v2 v3 v4 u0 u1 u2 u3 u4 : Value} {arr : Array Value} {n : Nat} (h : CC w wr G v0 v1 v2 v3 v4 arr n) (i : Nat) (v : Value) (he : (#[v0, v1, v2, v3, v4] : Array Value).setIfInBounds i v = #[u0, u1, u2, u3, u4]) : CC w (wr.setCell ⟨w.heap.size, i, none⟩ v) G u0 u1 u2 u3 u4 arr n := by
  have hn := h.ne
  have K := (De.KB.refl w.heap.size wr).setCell i v
  exact ⟨by rw [Ba.heap_setCell_same h.bx, he], K.heap h.zr (by omega), K.heap h.pr (by omega), h.sz, De.KB.below h.bel K (by omega), hn⟩
/-- what is gone through here -/
structure Small (ps : List (List OpD)) (pl dr : List Int) : Prop where
  n : ps.length ≤ 20
  q : ∀ q ∈ ps, q.length ≤ 100
  c : ∀ q ∈ ps, ∀ o ∈ q, o.cases.length ≤ 3000
  p : pl.length ≤ 1000
  d : dr.length ≤ 1000
/-- what Copy answers: the same script, in new blocks -/
def CRes (w : World) (T M : Int) (ps : List (List OpD)) (pl dr : List Int) (r : Ending) (w' : World) : Prop :=
  ∃ G L D arr, r = .returned (.agg #[.int .i64 T, .int .i64 M, .slice (some ⟨G, 0, none⟩) ps.length ps.length, .slice (some ⟨L, 0, none⟩) pl.length pl.length, .slice (some ⟨D, 0, none⟩) dr.length dr.length]) ∧ (w'.heap[G]? = some (.cells arr 56 (0, 0)) ∧ PF w' (w.heap.size + 1) arr ps ∧ w.heap.size < G) ∧ (w'.heap[L]? = some (.cells (row pl) 3 (0, 0)) ∧ G < L) ∧ w'.heap[D]? = some (.cells (row dr) 3 (0, 0)) ∧ L < D

set_option maxRecDepth 100000 in
set_option maxHeartbeats 3200000 in
theorem copy_any (T M : Int) (ps : List (List OpD)) (pl dr : List Int) (pa la da : Option Addr) (pc lc dc : Nat) (w : World) (hS : SAt w ⟨T, M, ps, pl, dr⟩ pa la da) (hm : Small ps pl dr) :
    Calls Try.prog 22 #[.agg #[.int .i64 T, .int .i64 M, .slice pa ps.length pc, .slice la pl.length lc, .slice da dr.length dc]] w fun r w' => CRes w T M ps pl dr r w' ∧ Below w.heap.size w w' := by
  have SW := hide hS
  obtain ⟨h20, h100, h3000, hpl, hdr⟩ := hm
  have H100 := hide h100
  have H3 := hide h3000
  have B0 := hide (btr (below_alloc w (.cells #[.int .i64 T, .int .i64 M, .slice pa ps.length pc, .slice la pl.length lc, .slice da dr.length dc] 38)) (below_alloc (w.alloc (.cells #[.int .i64 T, .int .i64 M, .slice pa ps.length pc, .slice la pl.length lc, .slice da dr.length dc] 38)) (.cells #[.int .i64 0, .int .i64 0, .slice none 0 0, .slice none 0 0, .slice none 0 0] 38)))
  have X0 := hide (heap_below (heap_new w (.cells #[.int .i64 T, .int .i64 M, .slice pa ps.length pc, .slice la pl.length lc, .slice da dr.length dc] 38)) (below_alloc (w.alloc (.cells #[.int .i64 T, .int .i64 M, .slice pa ps.length pc, .slice la pl.length lc, .slice da dr.length dc] 38)) (.cells #[.int .i64 0, .int .i64 0, .slice none 0 0, .slice none 0 0, .slice none 0 0] 38)))
  have Z0 : Hid (((w.alloc (.cells #[.int .i64 T, .int .i64 M, .slice pa ps.length pc, .slice la pl.length lc, .slice da dr.length dc] 38)).alloc (.cells #[.int .i64 0, .int .i64 0, .slice none 0 0, .slice none 0 0, .slice none 0 0] 38)).heap[w.heap.size + 1]? = some (.cells #[.int .i64 0, .int .i64 0, .slice none 0 0, .slice none 0 0, .slice none 0 0] 38 (0, 0))) := by
    have := heap_new (w.alloc (.cells #[.int .i64 T, .int .i64 M, .slice pa ps.length pc, .slice la pl.length lc, .slice da dr.length dc] 38)) (.cells #[.int .i64 0, .int .i64 0, .slice none 0 0, .slice none 0 0, .slice none 0 0] 38)
    rw [World.size_alloc] at this
    exact this
  have s0 : ((w.alloc (.cells #[.int .i64 T, .int .i64 M, .slice pa ps.length pc, .slice la pl.length lc, .slice da dr.length dc] 38)).alloc (.cells #[.int .i64 0, .int .i64 0, .slice none 0 0, .slice none 0 0, .slice none 0 0] 38)).heap.size = w.heap.size + 1 + 1 := by rw [World.size_alloc, World.size_alloc]
  have HS0 := hide s0
  obtain ⟨x0, x1, x2, x3, x4⟩ := sc_cells X0.out
  have fz2 := frozen_of X0.out 2
  clear hS h100 h3000 s0
  go_enter Try.func22, Try.ntmps22
  go_wp2_with fail
  generalize (w.alloc (.cells #[.int .i64 T, .int .i64 M, .slice pa ps.length pc, .slice la pl.length lc, .slice da dr.length dc] 38)).alloc (.cells #[.int .i64 0, .int .i64 0, .slice none 0 0, .slice none 0 0, .slice none 0 0] 38) = W0 at B0 X0 Z0 HS0 x0 x1 x2 x3 x4 fz2 ⊢
  refine (copied_pr pa ps pc _ (SW.out.ps.below B0.out) (by show ps.length ≤ 1000; omega)).mono ?_
  rw [HS0.out]
  rintro r w1 ⟨rfl, cs, hw1, hcl, hcs⟩
  have G1 : Hid (w1.heap[w.heap.size + 1 + 1]? = some (.cells cs.toArray 56 (0, 0))) := by
    have := heap_new W0 (.cells cs.toArray 56)
    rw [HS0.out] at this
    show _ = _
    rw [hw1]
    exact this
  have B1 : Hid (Below W0.heap.size W0 w1) := by
    show Below _ _ _
    rw [hw1]
    exact below_alloc _ _
  have PM1 := hide (PM.start SW.out.ps B0.out hcl hcs (w1.setCell ⟨w.heap.size, 2, none⟩ (.slice (some ⟨w.heap.size + 1 + 1, 0, none⟩) ps.length ps.length)) (w.heap.size + 1 + 1 + 1))
  have C0 : Hid (CC w w1 (w.heap.size + 1 + 1) (.int .i64 T) (.int .i64 M) (.slice pa ps.length pc) (.slice la pl.length lc) (.slice da dr.length dc) cs.toArray ps.length) :=
    ⟨heap_below X0.out B1.out, heap_below Z0.out B1.out, G1.out, by rw [List.size_toArray, hcl], btr B0.out B1.out, by omega⟩
  have C1 := hide (C0.out.box (u2 := .slice (some ⟨w.heap.size + 1 + 1, 0, none⟩) ps.length ps.length) 2 _ rfl)
  obtain ⟨x0, x1, x2, x3, x4⟩ := sc_cells C0.out.bx
  have fz2 := frozen_of C0.out.bx 2
  have N1 : Hid (w.heap.size + 1 + 1 + 1 ≤ (w1.setCell ⟨w.heap.size, 2, none⟩ (.slice (some ⟨w.heap.size + 1 + 1, 0, none⟩) ps.length ps.length)).heap.size) := De.heap_lt C1.out.pr
  clear hw1 hcl hcs
  go_wp2_with fail
  go_loopw [13] (fun i wr => ∃ (k : Nat) (arr : Array Value), k ≤ ps.length ∧ i = .int .i64 k ∧ CC w wr (w.heap.size + 1 + 1) (.int .i64 T) (.int .i64 M) (.slice (some ⟨w.heap.size + 1 + 1, 0, none⟩) ps.length ps.length) (.slice la pl.length lc) (.slice da dr.length dc) arr ps.length ∧ PM w wr (w.heap.size + 1 + 1 + 1) k arr ps ∧ w.heap.size + 1 + 1 + 1 ≤ wr.heap.size) (fun i _ => ps.length - (intOf i).toNat)
  case atStart => exact ⟨0, cs.toArray, Nat.zero_le _, rfl, C1.out, PM1.out, N1.out⟩
  case round =>
    clear x0 x1 x2 x3 x4 fz2 C0 C1 PM1 G1 B1 N1 B0 X0 Z0 HS0
    rename World => w2
    obtain ⟨k, arr, hk, rfl, c2, pm2, n2⟩ := hrel
    have C2 := hide c2
    have PM2 := hide pm2
    clear c2 pm2
    by_cases hlt : k < ps.length
    · have hlt' : (k : Int) < (ps.length : Int) := by omega
      obtain ⟨q, hq⟩ : ∃ q, ps[k]? = some q := ⟨ps[k], by simp [hlt]⟩
      obtain ⟨qa, qc, har, hO⟩ := PM2.out.2 k q (Nat.le_refl _) hq
      have ck := (cell_of C2.out.pr k).trans har
      have hqm := List.mem_of_getElem? hq
      have hq1 := H100.out q hqm
      have hq3 := H3.out q hqm
      have HQ := hide hq
      have HO := hide hO
      have HQ3 := hide hq3
      clear hq hO hqm hq3 har
      go_wp2_with fail
      refine (copied_op qa q qc _ (HO.out.below C2.out.bel) (by omega)).mono ?_
      rintro r w3 ⟨rfl, cq, hw3, hcl, hcs⟩
      have B3 : Hid (Below w2.heap.size w2 w3) := by
        show Below _ _ _
        rw [hw3]
        exact below_alloc _ _
      have OM3 : Hid (OM w3 w.heap.size w2.heap.size 0 q) := by
        have := OM.start HO.out C2.out.bel hcl hcs HQ3.out
        rw [← hw3] at this
        exact this
      have G3 : Hid (w3.heap[w2.heap.size]? = some (.cells cq.toArray 24 (0, 0))) := by
        show _ = _
        rw [hw3]
        exact heap_new _ _
      have s3 := De.heap_lt G3.out
      have HCL := hide hcl
      clear hw3 hcl hcs ck
      go_wp2_with fail
      go_loopw [22] (fun i wr => ∃ (j : Nat), j ≤ q.length ∧ i = .int .i64 j ∧ Below w2.heap.size w2 wr ∧ OM wr w.heap.size w2.heap.size j q ∧ (∀ i, wr.frozen? ⟨w2.heap.size, i, none⟩ = false) ∧ w2.heap.size < wr.heap.size) (fun i _ => q.length - (intOf i).toNat)
      case atStart => exact ⟨0, Nat.zero_le _, rfl, B3.out, OM3.out, fun i => frozen_of G3.out i, s3⟩
      case round =>
        clear OM3 G3 s3 B3
        obtain ⟨j, hj, rfl, bw, om4, fz4, n4⟩ := hrel
        have BW := hide bw
        have OM4 := hide om4
        have FZ4 := hide fz4
        clear bw om4 fz4
        by_cases hjl : j < q.length
        · have hjl' : (j : Int) < (q.length : Int) := by omega
          obtain ⟨o, ho⟩ : ∃ o, q[j]? = some o := ⟨q[j], by simp [hjl]⟩
          obtain ⟨ca, cc, ⟨y0, y1, y2, y3, y4⟩, hC, -, -, hl3⟩ := OM4.out j o ho
          have HX := hide ho
          have HC := hide hC
          clear ho hC y0 y1 y2 y4
          go_wp2_with fail
          refine (copied_case ca o.cases cc _ HC.out (by omega)).mono ?_
          rintro r w5 ⟨rfl, c5, b5⟩
          have C5 := hide c5
          have s5 := b5.size
          have OM5 := hide (OM4.out.below b5)
          have z3 := cellB y3 b5
          have zf := (b5.frozen (p := ⟨w2.heap.size, j * 5 + 3, none⟩) n4).trans (FZ4.out (j * 5 + 3))
          have FZ5 : Hid (∀ i, w5.frozen? ⟨w2.heap.size, i, none⟩ = false) := fun i => (b5.frozen (p := ⟨w2.heap.size, i, none⟩) n4).trans (FZ4.out i)
          have BW5 := hide (BW.out.trans (b5.mono (Nat.le_of_lt n4)))
          clear c5 b5 y3
          go_wp2_with fail
          go_roundw
          case rel => exact ⟨j + 1, by omega, by go_num, BW5.out.setCell (Nat.le_refl _) _, OM5.out.step (by omega) HX.out ⟨wr.heap.size, 0, none⟩ o.cases.length C5.out n4, fun i => by rw [World.frozen?_setCell]; exact FZ5.out i, Nat.lt_of_lt_of_le (Nat.lt_of_lt_of_le n4 s5) ((De.KB.refl w2.heap.size w5).setCell (j * 5 + 3) (.slice (some ⟨wr.heap.size, 0, none⟩) o.cases.length o.cases.length)).size⟩
          case measure => simp [intOf]; omega
        · have hjl' : ¬ ((j : Int) < (q.length : Int)) := by omega
          have C5 := hide (C2.out.below BW.out)
          have PM5 := hide (PM2.out.below BW.out (by omega))
          have OF5 := hide (OM4.out.done (by omega))
          have PM6 := hide ((PM5.out.step HQ.out (by rw [C5.out.sz]; exact hlt) w2.heap.size q.length OF5.out n2 (by omega)).kb ((De.KB.refl (w.heap.size + 1 + 1) wr).setCell k (.slice (some ⟨w2.heap.size, 0, none⟩) q.length q.length)) (by omega))
          obtain ⟨x0, x1, x2, x3, x4⟩ := sc_cells C5.out.bx
          have fk := frozen_of C5.out.pr k
          obtain ⟨vk, hvk⟩ : ∃ v, wr.cell? ⟨w.heap.size + 1 + 1, k, none⟩ = some v := ⟨_, (cell_of C5.out.pr k).trans (Array.getElem?_eq_getElem (by rw [C5.out.sz]; exact hlt))⟩
          have s6 := ((De.KB.refl (w.heap.size + 1 + 1) wr).setCell k (.slice (some ⟨w2.heap.size, 0, none⟩) q.length q.length)).size
          go_wp2_with fail
          go_roundw
          case rel => exact ⟨k + 1, _, by omega, by go_num, C5.out.store k _, PM6.out, by omega⟩
          case measure => simp [intOf]; omega
    · have hlt' : ¬ ((k : Int) < (ps.length : Int)) := by omega
      have PF2 : Hid (PF w2 (w.heap.size + 1 + 1 + 1) arr ps) := by
        have := PM2.out.1
        rw [List.take_of_length_le (by omega)] at this
        exact this
      obtain ⟨x0, x1, x2, x3, x4⟩ := sc_cells C2.out.bx
      clear PM2
      go_wp2_with fail
      refine (copied_int la pl lc _ (SW.out.pl.below C2.out.bel) (by show pl.length ≤ 1000000; omega)).mono ?_
      rintro r w3 ⟨rfl, hw3⟩
      have B3 : Hid (Below w2.heap.size w2 w3) := by
        show Below _ _ _
        rw [hw3]
        exact below_alloc _ _
      have L3 : Hid (w3.heap[w2.heap.size]? = some (.cells (row pl) 3 (0, 0))) := by
        show _ = _
        rw [hw3]
        exact heap_new _ _
      have s3 := De.heap_lt L3.out
      have C3 := hide (C2.out.below B3.out)
      have PF3 := hide (PF2.out.below B3.out (by omega))
      obtain ⟨x0, x1, x2, x3, x4⟩ := sc_cells C3.out.bx
      have fz3 := frozen_of C3.out.bx 3
      have K4 := (De.KB.refl w.heap.size w3).setCell 3 (.slice (some ⟨w2.heap.size, 0, none⟩) pl.length pl.length)
      have C4 := hide (C3.out.box (u3 := .slice (some ⟨w2.heap.size, 0, none⟩) pl.length pl.length) 3 _ rfl)
      have PF4 := hide (PF3.out.kb K4 (by omega))
      have L4 := hide (K4.heap L3.out (by omega))
      have s4 := K4.size
      clear hw3 K4
      go_wp2_with fail
      refine (copied_int da dr dc _ (SW.out.dr.below C4.out.bel) (by show dr.length ≤ 1000000; omega)).mono ?_
      generalize hW4 : w3.setCell ⟨w.heap.size, 3, none⟩ (.slice (some ⟨w2.heap.size, 0, none⟩) pl.length pl.length) = W4 at C4 PF4 L4 s4 ⊢
      rintro r w5 ⟨rfl, hw5⟩
      have B5 : Hid (Below W4.heap.size W4 w5) := by
        show Below _ _ _
        rw [hw5]
        exact below_alloc _ _
      have D5 : Hid (w5.heap[W4.heap.size]? = some (.cells (row dr) 3 (0, 0))) := by
        show _ = _
        rw [hw5]
        exact heap_new _ _
      have C5 := hide (C4.out.below B5.out)
      have PF5 := hide (PF4.out.below B5.out (by omega))
      have L5 := hide (heap_below L4.out B5.out)
      obtain ⟨x0, x1, x2, x3, x4⟩ := sc_cells C5.out.bx
      have fz4 := frozen_of C5.out.bx 4
      have K6 := (De.KB.refl w.heap.size w5).setCell 4 (.slice (some ⟨W4.heap.size, 0, none⟩) dr.length dr.length)
      have C6 := hide (C5.out.box (u4 := .slice (some ⟨W4.heap.size, 0, none⟩) dr.length dr.length) 4 _ rfl)
      have PF6 := hide (PF5.out.kb K6 (by omega))
      have L6 := hide (K6.heap L5.out (by omega))
      have D6 := hide (K6.heap D5.out (by omega))
      obtain ⟨y0, y1, y2, y3, y4⟩ := sc_cells C6.out.bx
      obtain ⟨r0, r1, r2, r3, r4⟩ := sc_cells C6.out.zr
      have q0 := frozen_of C6.out.zr 0
      have q1 := frozen_of C6.out.zr 1
      have q2 := frozen_of C6.out.zr 2
      have q3 := frozen_of C6.out.zr 3
      have q4 := frozen_of C6.out.zr 4
      clear hw5 K6 hW4
      go_wp2_with fail
      have KZ := fun (u0 u1 u2 u3 u4 : Value) => (((((De.KB.refl (w.heap.size + 1) (w5.setCell ⟨w.heap.size, 4, none⟩ (.slice (some ⟨W4.heap.size, 0, none⟩) dr.length dr.length))).setCell 0 u0).setCell 1 u1).setCell 2 u2).setCell 3 u3).setCell 4 u4
      have hL2 : w.heap.size + 1 + 1 < w2.heap.size := by omega
      exact bodyPost_ret (results_row1 Try.results22 _ _ _ _ rfl (loadVar_sc (five_set C6.out.zr _ _ _ _ _) rfl)) rfl ⟨⟨w.heap.size + 1 + 1, w2.heap.size, W4.heap.size, arr, rfl, ⟨(KZ _ _ _ _ _).heap C6.out.pr (by omega), (PF6.out.kb (KZ _ _ _ _ _) (by omega)).mono (by omega), by omega⟩, ⟨(KZ _ _ _ _ _).heap L6.out (by omega), hL2⟩, (KZ _ _ _ _ _).heap D6.out (by omega), by omega⟩, De.KB.below C6.out.bel (KZ _ _ _ _ _) (by omega)⟩
end Sh
end Go.Proofs.Ytgnhophlnbpcgaa
