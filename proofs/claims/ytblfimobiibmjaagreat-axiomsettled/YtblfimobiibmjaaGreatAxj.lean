import Derived.Test.YtblfimobiibmjaaGreatZjAh19
import Derived.Test.YtblfimobiibmjaaGreatAxi
namespace Go.Proofs.YtblfimobiibmjaaGreat
open Go.ChangeShapes Go.WideShapes Go.ChangeAt Go.RowKit
namespace Ax
open En Gu Eg Ba
def kd (e : Ev) : Nat := if e.k = 2 then 9 else if e.k = 5 then 2 else if e.k = 3 ∨ (e.k = 7 ∧ e.s = true) then 0 else if (e.k = 4 ∨ e.k = 7) ∧ e.o = true then 1 else 9
section
variable {w : World} {N A M G C : Nat} {la : Nat → Nat} {ex : Nat → Bool} {sz : Nat → Int} {D : Nat → Nat → List Nat} {vs : Nat → Nat → Value}
def NoP (w w' : World) (N A M G C : Nat) (la : Nat → Nat) (ex : Nat → Bool) (sz : Nat → Int) (D : Nat → Nat → List Nat) (e : Ev) (d q base : Nat) : Prop :=
 (∃ vs', SC w' N A M G C la ex (fun y => if y = d ∧ e.k = 2 then e.v else sz y) (fun y z => if y = d ∧ z = kd e then D y z ++ [q] else D y z) vs') ∧ Below base w w' ∧
   ∀ k cc tt fr, w.heap[k]? = some (.cells cc tt fr) → tt ≠ 3 → k ≠ M → w'.heap[k]? = w.heap[k]?
theorem NoP.skip {e : Ev} {d q base : Nat} (S : SC w N A M G C la ex sz D vs) {W : World} (hW : Below w.heap.size w W) (b1 : base ≤ M) (h2 : e.k ≠ 2) (hk : kd e = 9) : NoP w W N A M G C la ex sz D e d q base := by
 refine ⟨⟨vs, (S.below hW).congr (fun _ _ => rfl) (fun _ _ => rfl) (fun y _ => ?_) (fun y _ z hz => ?_)⟩, hW.mono (by have := S.lt.2; omega), fun k cc tt fr hk _ _ => hW.block k (heap_lt hk)⟩
 ·rw [if_neg (fun z => h2 z.2)]
 ·rw [if_neg (fun z => by have := z.2; omega)]
theorem NoP.size {e : Ev} {d q base : Nat} (S : SC w N A M G C la ex sz D vs) {W : World} (hW : Below w.heap.size w W) (b1 : base ≤ M) (hd : d < C) (h2 : e.k = 2) : NoP w (W.setCell ⟨M, d * 4, none⟩ (.int .i64 e.v)) N A M G C la ex sz D e d q base := by
 have hb : base ≤ w.heap.size := by have := S.lt.2; omega
 refine ⟨⟨vs, ((S.below hW).size hd e.v).congr (fun _ _ => rfl) (fun _ _ => rfl) (fun y _ => ?_) (fun y _ z hz => ?_)⟩, (hW.mono hb).setCell b1 _, fun k cc tt fr hk _ hM => (Below.heap_setCell _ _ _ _ (fun z => hM z)).trans (hW.block k (heap_lt hk))⟩
 ·by_cases z : y = d
  ·rw [if_pos ⟨z, h2⟩, if_pos z]
  ·rw [if_neg (fun q => z q.1), if_neg z]
 ·have : kd e = 9 := by unfold kd; rw [if_pos h2]
  rw [if_neg (fun z => by have := z.2; omega)]
theorem NoP.app {e : Ev} {d q base b : Nat} (h2 : e.k ≠ 2) (hk : kd e = b) {W : World} (h : (∃ vs', SC W N A M G C la ex sz (fun y z => if y = d ∧ z = b then D d b ++ [q] else D y z) vs') ∧ Below base w W ∧ ∀ k cc tt fr, w.heap[k]? = some (.cells cc tt fr) → tt ≠ 3 → k ≠ M → W.heap[k]? = w.heap[k]?) : NoP w W N A M G C la ex sz D e d q base := by
 obtain ⟨⟨vs', S⟩, h3, h4⟩ := h
 refine ⟨⟨vs', S.congr (fun _ _ => rfl) (fun _ _ => rfl) (fun y _ => ?_) (fun y _ z hz => ?_)⟩, h3, h4⟩
 ·rw [if_neg (fun z => h2 z.2)]
 ·rw [hk]
  by_cases z : y = d ∧ z = b
  ·obtain ⟨rfl, rfl⟩ := z
   simp
  ·rw [if_neg z, if_neg z]
set_option maxRecDepth 100000 in
set_option maxHeartbeats 6400000 in
theorem note_any (e : Ev) (d q base : Nat) (S : SC w N A M G C la ex sz D vs) (hd : d < C) (hl : ∀ b, b < 3 → (D d b).length ≤ 100000) (hN : N ≤ w.heap.size) (b1 : base ≤ M) :
 Calls Tryz.prog 138 #[.pointer (some ⟨M, d * 4, none⟩), evv e, .int .i64 (q : Int)] w fun r w' => r = .returned (.tuple #[]) ∧ NoP w w' N A M G C la ex sz D e d q base := by
 unfold evv evc
 have SK := hide (fun W (hW : Below w.heap.size w W) (h2 : e.k ≠ 2) (hk : kd e = 9) => NoP.skip (q := q) (d := d) S hW b1 h2 hk)
 have SZ := hide (fun W (hW : Below w.heap.size w W) (h2 : e.k = 2) => NoP.size (q := q) S hW b1 hd h2)
 have AP := hide (fun b o (hb : b < 3) (ho : o = d * 4 + 1 + b) W hW => S.app hd hb ho q (hl b hb) hN b1 W hW)
 have NA := hide (fun b W (h2 : e.k ≠ 2) (hk : kd e = b) h => NoP.app (w := w) (N := N) (A := A) (M := M) (G := G) (C := C) (la := la) (ex := ex) (sz := sz) (D := D) (e := e) (d := d) (q := q) (base := base) (b := b) h2 hk (W := W) h)
 have KD : Hid (kd e = if e.k = 2 then 9 else if e.k = 5 then 2 else if e.k = 3 ∨ (e.k = 7 ∧ e.s = true) then 0 else if (e.k = 4 ∨ e.k = 7) ∧ e.o = true then 1 else 9) := rfl
 obtain ⟨oa0, c0, v0, -, -⟩ := (S.rn d hd 0 (by omega)).sl
 obtain ⟨oa1, c1, v1, -, -⟩ := (S.rn d hd 1 (by omega)).sl
 obtain ⟨oa2, c2, v2, -, -⟩ := (S.rn d hd 2 (by omega)).sl
 obtain ⟨y0, y1, y2, y3⟩ := S.readC hd
 have F0 := hide (fun W (hW : Below w.heap.size w W) => (S.below hW).frM (d * 4))
 rw [v0] at y1
 rw [v1] at y2
 rw [v2] at y3
 have A0 := hide (AP.out 0 (d * 4 + 1) (by omega) rfl)
 have A1 := hide (AP.out 1 (d * 4 + 2) (by omega) rfl)
 have A2 := hide (AP.out 2 (d * 4 + 3) (by omega) rfl)
 simp only [v0] at A0
 simp only [v1] at A1
 simp only [v2] at A2
 obtain ⟨m0, h0⟩ : ∃ m, (D d 0).length = m := ⟨_, rfl⟩
 obtain ⟨m1, h1⟩ : ∃ m, (D d 1).length = m := ⟨_, rfl⟩
 obtain ⟨m2, h2⟩ : ∃ m, (D d 2).length = m := ⟨_, rfl⟩
 rw [h0] at y1
 simp only [h0] at A0
 rw [h1] at y2
 simp only [h1] at A1
 rw [h2] at y3
 simp only [h2] at A2
 clear S hl hN b1 AP v0 v1 v2 h0 h1 h2
 obtain ⟨k, g, c, a, v, m, s, o⟩ := e
 dsimp only at *
 have BX := hide (below_alloc w (.cells #[.int .i64 k, .int .i64 g, .int .i64 c, .int .i64 a, .int .i64 v, .int .i64 m, .bool s, .bool o] 50))
 have X0 := hide (heap_new w (.cells #[.int .i64 k, .int .i64 g, .int .i64 c, .int .i64 a, .int .i64 v, .int .i64 m, .bool s, .bool o] 50))
 have LT : Hid (w.heap.size < (w.alloc (.cells #[.int .i64 k, .int .i64 g, .int .i64 c, .int .i64 a, .int .i64 v, .int .i64 m, .bool s, .bool o] 50)).heap.size) := by
  show _ < _
  rw [World.size_alloc]
  omega
 go_enter Tryz.func138, Tryz.ntmps138
 go_upto_region 1 with fail
 generalize w.alloc (.cells #[.int .i64 k, .int .i64 g, .int .i64 c, .int .i64 a, .int .i64 v, .int .i64 m, .bool s, .bool o] 50) = w1 at *
 have s0 : w1.cell? ⟨w.heap.size, 0, none⟩ = some (.int .i64 k) := cell_of X0.out 0
 have s4 : w1.cell? ⟨w.heap.size, 4, none⟩ = some (.int .i64 v) := cell_of X0.out 4
 have s6 : w1.cell? ⟨w.heap.size, 6, none⟩ = some (.bool s) := cell_of X0.out 6
 have s7 : w1.cell? ⟨w.heap.size, 7, none⟩ = some (.bool o) := cell_of X0.out 7
 have z0 := (BX.out.cell (p := ⟨M, d * 4, none⟩) (World.block_lt_of_cell? w _ y0)).trans y0
 have z1 := (BX.out.cell (p := ⟨M, d * 4 + 1, none⟩) (World.block_lt_of_cell? w _ y1)).trans y1
 have z2 := (BX.out.cell (p := ⟨M, d * 4 + 2, none⟩) (World.block_lt_of_cell? w _ y2)).trans y2
 have z3 := (BX.out.cell (p := ⟨M, d * 4 + 3, none⟩) (World.block_lt_of_cell? w _ y3)).trans y3
 have f0 := F0.out w1 BX.out
 clear y0 y1 y2 y3 F0
 by_cases h2 : k = 2
 ·have b2 : (k == 2) = true := by simp [h2]
  have FIN := hide (SZ.out w1 BX.out h2)
  clear h2 A0 A1 A2 z1 z2 z3
  go_wp2_with fail
  exact bodyPost_end (results_none rfl _ _ _) rfl ⟨rfl, FIN.out⟩
 have b2 : (k == 2) = false := by simp [h2]
 have N2 := hide h2
 by_cases h5 : k = 5
 ·have b5 : (k == 5) = true := by simp [h5]
  have KE : Hid (kd ⟨k, g, c, a, v, m, s, o⟩ = 2) := by
   show _ = _
   rw [KD.out]
   simp [*]
  obtain ⟨oa', c', w6, hap, yy, ff, fin⟩ := A2.out w1 BX.out
  have FIN := hide (NA.out 2 _ N2.out KE.out fin)
  clear fin A0 A1 A2 z0 f0
  try clear h4
  try clear h7
  try clear h3
  try clear h5
  clear h2
  go_wp2_with (at_builtin; refine Lib.wpList_append_run _ (by rfl) _ _ _ _ (by rfl) _ _ (by rfl) (by rfl) _ _ hap ?_)
  exact bodyPost_end (results_none rfl _ _ _) rfl ⟨rfl, FIN.out⟩
 have b5 : (k == 5) = false := by simp [h5]
 by_cases h3 : k = 3
 ·have b3 : (k == 3) = true := by simp [h3]
  have KE : Hid (kd ⟨k, g, c, a, v, m, s, o⟩ = 0) := by
   show _ = _
   rw [KD.out]
   simp [*]
  obtain ⟨oa', c', w6, hap, yy, ff, fin⟩ := A0.out w1 BX.out
  have FIN := hide (NA.out 0 _ N2.out KE.out fin)
  clear fin A0 A1 A2 z0 f0
  try clear h4
  try clear h7
  try clear h3
  try clear h5
  clear h2
  go_wp2_with (at_builtin; refine Lib.wpList_append_run _ (by rfl) _ _ _ _ (by rfl) _ _ (by rfl) (by rfl) _ _ hap ?_)
  exact bodyPost_end (results_none rfl _ _ _) rfl ⟨rfl, FIN.out⟩
 have b3 : (k == 3) = false := by simp [h3]
 by_cases h7 : k = 7
 ·have b7 : (k == 7) = true := by simp [h7]
  have b4 : (k == 4) = false := by simp [h7]
  cases s
  ·cases o
   ·have KE : Hid (kd ⟨k, g, c, a, v, m, false, false⟩ = 9) := by
     show _ = _
     rw [KD.out]
     simp [*]
    have FIN := hide (SK.out _ BX.out N2.out KE.out)
    clear A0 A1 A2 z0 z1 z2 z3 f0
    try clear h4
    try clear h7
    try clear h3
    try clear h5
    clear h2
    go_wp2_with fail
    exact bodyPost_end (results_none rfl _ _ _) rfl ⟨rfl, FIN.out⟩
   ·have KE : Hid (kd ⟨k, g, c, a, v, m, false, true⟩ = 1) := by
     show _ = _
     rw [KD.out]
     simp [*]
    obtain ⟨oa', c', w6, hap, yy, ff, fin⟩ := A1.out w1 BX.out
    have FIN := hide (NA.out 1 _ N2.out KE.out fin)
    clear fin A0 A1 A2 z0 f0
    try clear h4
    try clear h7
    try clear h3
    try clear h5
    clear h2
    go_wp2_with (at_builtin; refine Lib.wpList_append_run _ (by rfl) _ _ _ _ (by rfl) _ _ (by rfl) (by rfl) _ _ hap ?_)
    exact bodyPost_end (results_none rfl _ _ _) rfl ⟨rfl, FIN.out⟩
  ·have KE : Hid (kd ⟨k, g, c, a, v, m, true, o⟩ = 0) := by
    show _ = _
    rw [KD.out]
    simp [*]
   obtain ⟨oa', c', w6, hap, yy, ff, fin⟩ := A0.out w1 BX.out
   have FIN := hide (NA.out 0 _ N2.out KE.out fin)
   clear fin A0 A1 A2 z0 f0
   try clear h4
   try clear h7
   try clear h3
   try clear h5
   clear h2
   go_wp2_with (at_builtin; refine Lib.wpList_append_run _ (by rfl) _ _ _ _ (by rfl) _ _ (by rfl) (by rfl) _ _ hap ?_)
   exact bodyPost_end (results_none rfl _ _ _) rfl ⟨rfl, FIN.out⟩
 have b7 : (k == 7) = false := by simp [h7]
 by_cases h4 : k = 4
 ·have b4 : (k == 4) = true := by simp [h4]
  cases o
  ·have KE : Hid (kd ⟨k, g, c, a, v, m, s, false⟩ = 9) := by
    show _ = _
    rw [KD.out]
    simp [*]
   have FIN := hide (SK.out _ BX.out N2.out KE.out)
   clear A0 A1 A2 z0 z1 z2 z3 f0
   try clear h4
   try clear h7
   try clear h3
   try clear h5
   clear h2
   go_wp2_with fail
   exact bodyPost_end (results_none rfl _ _ _) rfl ⟨rfl, FIN.out⟩
  ·have KE : Hid (kd ⟨k, g, c, a, v, m, s, true⟩ = 1) := by
    show _ = _
    rw [KD.out]
    simp [*]
   obtain ⟨oa', c', w6, hap, yy, ff, fin⟩ := A1.out w1 BX.out
   have FIN := hide (NA.out 1 _ N2.out KE.out fin)
   clear fin A0 A1 A2 z0 f0
   try clear h4
   try clear h7
   try clear h3
   try clear h5
   clear h2
   go_wp2_with (at_builtin; refine Lib.wpList_append_run _ (by rfl) _ _ _ _ (by rfl) _ _ (by rfl) (by rfl) _ _ hap ?_)
   exact bodyPost_end (results_none rfl _ _ _) rfl ⟨rfl, FIN.out⟩
 have b4 : (k == 4) = false := by simp [h4]
 have KE : Hid (kd ⟨k, g, c, a, v, m, s, o⟩ = 9) := by
  show _ = _
  rw [KD.out]
  simp [*]
 have FIN := hide (SK.out _ BX.out N2.out KE.out)
 clear A0 A1 A2 z0 z1 z2 z3 f0
 try clear h4
 try clear h7
 try clear h3
 try clear h5
 clear h2
 go_wp2_with fail
 exact bodyPost_end (results_none rfl _ _ _) rfl ⟨rfl, FIN.out⟩
set_option maxRecDepth 100000 in
set_option maxHeartbeats 1600000 in
theorem begins_any (e : Ev) (i : Nat) (S : SC w N A M G C la ex sz D vs) (hg : e.k = 7 → ∃ g : Nat, e.g = (g : Int) ∧ g < G) :
 Calls Tryz.prog 139 #[(.agg #[.slice (some ⟨A, 0, none⟩) G G, .slice (some ⟨M, 0, none⟩) C C]), evv e, .int .i64 (i : Int)] w fun r w' => r = .returned (.int .i64 ((if e.k = 7 then la e.g.toNat else i : Nat) : Int)) ∧ Below w.heap.size w w' := by
 unfold evv evc
 have SB := hide (below_alloc w (.cells #[.slice (some ⟨A, 0, none⟩) G G, .slice (some ⟨M, 0, none⟩) C C] 145))
 have S0 := hide (heap_new w (.cells #[.slice (some ⟨A, 0, none⟩) G G, .slice (some ⟨M, 0, none⟩) C C] 145))
 have RD := hide (fun W (hW : Below w.heap.size w W) g (hg : g < G) => ((S.below hW).readG hg).1)
 have HG := hide hg
 clear hg S
 obtain ⟨k, g, c, a, v, m, s, o⟩ := e
 dsimp only at *
 go_enter Tryz.func139, Tryz.ntmps139
 go_upto_region 1 with fail
 have SZ1 : Hid ((w.alloc (.cells #[.slice (some ⟨A, 0, none⟩) G G, .slice (some ⟨M, 0, none⟩) C C] 145)).heap.size = w.heap.size + 1) := World.size_alloc ..
 generalize w.alloc (.cells #[.slice (some ⟨A, 0, none⟩) G G, .slice (some ⟨M, 0, none⟩) C C] 145) = w1 at *
 have XX := hide (below_alloc w1 (.cells #[.int .i64 k, .int .i64 g, .int .i64 c, .int .i64 a, .int .i64 v, .int .i64 m, .bool s, .bool o] 50))
 have X1 := hide (heap_new w1 (.cells #[.int .i64 k, .int .i64 g, .int .i64 c, .int .i64 a, .int .i64 v, .int .i64 m, .bool s, .bool o] 50))
 rw [SZ1.out] at X1
 have S1 := hide (heap_below S0.out XX.out)
 have B1 := hide (btr SB.out XX.out)
 generalize w1.alloc (.cells #[.int .i64 k, .int .i64 g, .int .i64 c, .int .i64 a, .int .i64 v, .int .i64 m, .bool s, .bool o] 50) = w2 at *
 have x0 : w2.cell? ⟨w.heap.size + 1, 0, none⟩ = some (.int .i64 k) := cell_of X1.out 0
 by_cases h7 : k = 7
 ·obtain ⟨y, rfl, hy⟩ := HG.out h7
  have r0 := RD.out w2 B1.out y hy
  have x1 : w2.cell? ⟨w.heap.size + 1, 1, none⟩ = some (.int .i64 (y : Int)) := cell_of X1.out 1
  have s0 : w2.cell? ⟨w.heap.size, 0, none⟩ = some (.slice (some ⟨A, 0, none⟩) G G) := cell_of S1.out 0
  have b7 : (k == 7) = true := by simp [h7]
  have y0 : (0 : Int) ≤ (y : Int) := by omega
  have y1 : (y : Int) < (G : Int) := by omega
  have H7 := hide h7
  clear h7 HG RD S0 SB hy
  go_wp2_with fail
  go_ret
  exact ⟨by first | rfl | (rw [if_pos H7.out, Int.toNat_natCast]; rfl), B1.out⟩
 ·have b7 : (k == 7) = false := by simp [h7]
  have H7 := hide h7
  clear h7 HG RD S0 SB
  go_wp2_with fail
  go_ret
  exact ⟨by first | rfl | (rw [if_neg H7.out]; rfl), B1.out⟩
end
end Ax
end Go.Proofs.YtblfimobiibmjaaGreat
