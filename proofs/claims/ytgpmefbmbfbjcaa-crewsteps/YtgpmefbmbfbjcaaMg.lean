/- Both crews side by side; the laws' own two() and does(). -/
import Derived.Test.YtgpmefbmbfbjcaaMf
import Derived.Deep.RegionHeld3
namespace Go.Proofs.Ytgpmefbmbfbjcaa
open Go.ChangeShapes Go.WideShapes Go.ChangeAt Go.RowKit
namespace Cr
open Ba

/-- both crews, apart from each other, and new since w -/
structure Td (w u : World) (B : Nat) (F : Nat → Prop) (G : Nat) (H : Nat → Prop) (l m : List Mb) : Prop where
  p : PC u B F l
  r : RC u G H m
  b : Below w.heap.size w u
  lf : ∀ x, F x → w.heap.size ≤ x
  lh : ∀ x, H x → w.heap.size ≤ x
  ap : ∀ x, F x → ¬ H x
section
variable {w u v : World} {B : Nat} {F : Nat → Prop} {G : Nat} {H : Nat → Prop} {l m l' m' : List Mb}
theorem Td.below (h : Td w u B F G H l m) (hb : Below u.heap.size u v) : Td w v B F G H l m := ⟨h.p.below hb, h.r.below hb, btr h.b hb, h.lf, h.lh, h.ap⟩
theorem Td.stepP (h : Td w u B F G H l m) (p : Po 52 59 u v B F l') : ∃ F', Td w v B F' G H l' m ∧ KF F u v ∧ Nw F' F u := by
  obtain ⟨F', q, k, n⟩ := p
  refine ⟨F', ⟨q, h.r.kf k fun x hx hf => h.ap x hf hx, KF.below h.b k h.lf, fun x hx => ?_, h.lh, fun x hx hh => ?_⟩, k, n⟩
  · rcases n x hx with e | e
    · exact h.lf x e
    · exact Nat.le_trans h.b.size e
  · rcases n x hx with e | e
    · exact h.ap x e hh
    · have := h.r.bd x hh
      omega
theorem Td.stepR (h : Td w u B F G H l m) (p : Po 29 38 u v G H m') : ∃ H', Td w v B F G H' l m' ∧ KF H u v ∧ Nw H' H u := by
  obtain ⟨H', q, k, n⟩ := p
  refine ⟨H', ⟨h.p.kf k h.ap, q, KF.below h.b k h.lh, h.lf, fun x hx => ?_, fun x hx hh => ?_⟩, k, n⟩
  · rcases n x hx with e | e
    · exact h.lh x e
    · exact Nat.le_trans h.b.size e
  · rcases n x hh with e | e
    · exact h.ap x hx e
    · have := h.p.bd x hx
      omega
/-- what is neither's, and was there, is as it was, and is neither's still -/
def Rs (u v : World) (F H F' H' : Nat → Prop) : Prop := ∀ x, x < u.heap.size → ¬ F x → ¬ H x → v.heap[x]? = u.heap[x]? ∧ ¬ F' x ∧ ¬ H' x
theorem Rs.refl (u : World) (F H : Nat → Prop) : Rs u u F H F H := fun _ _ h1 h2 => ⟨rfl, h1, h2⟩
theorem Rs.below {F H : Nat → Prop} (hb : Below u.heap.size u v) : Rs u v F H F H := fun x hx h1 h2 => ⟨hb.block x hx, h1, h2⟩
theorem Rs.trans {a b c : World} {F H F' H' F2 H2 : Nat → Prop} (h : Rs a b F H F' H') (hs : a.heap.size ≤ b.heap.size) (k : Rs b c F' H' F2 H2) : Rs a c F H F2 H2 := by
  intro x hx h1 h2
  obtain ⟨e1, e2, e3⟩ := h x hx h1 h2
  obtain ⟨f1, f2, f3⟩ := k x (Nat.lt_of_lt_of_le hx hs) e2 e3
  exact ⟨f1.trans e1, f2, f3⟩
theorem Rs.p {F H F' : Nat → Prop} (k : KF F u v) (n : Nw F' F u) : Rs u v F H F' H := by
  intro x hx h1 h2
  refine ⟨k.block x hx h1, fun q => ?_, h2⟩
  rcases n x q with e | e
  · exact h1 e
  · omega
theorem Rs.r {F H H' : Nat → Prop} (k : KF H u v) (n : Nw H' H u) : Rs u v F H F H' := by
  intro x hx h1 h2
  refine ⟨k.block x hx h2, h1, fun q => ?_⟩
  rcases n x q with e | e
  · exact h2 e
  · omega
theorem Rs.heap {F H F' H' : Nat → Prop} (r : Rs u v F H F' H') {x : Nat} {o : Obj} (ho : u.heap[x]? = some o) (h1 : ¬ F x) (h2 : ¬ H x) : v.heap[x]? = some o := (r x (heap_lt ho) h1 h2).1.trans ho
/-- behind a step: both crews, and the rest -/
def DoP (w u v : World) (B : Nat) (F : Nat → Prop) (G : Nat) (H : Nat → Prop) (l : List Mb) : Prop := ∃ F' H', Td w v B F' G H' l l ∧ Rs u v F H F' H'
end
/-- both crews, and a block of the law's -/
structure Te (w u : World) (X : Nat) (ox : Obj) (B : Nat) (F : Nat → Prop) (G : Nat) (H : Nat → Prop) (z : World) (F1 H1 : Nat → Prop) (l m : List Mb) : Prop where
  t : Td w z B F1 G H1 l m
  x : z.heap[X]? = some ox
  nx : ¬ F1 X ∧ ¬ H1 X
  r : Rs u z F H F1 H1
  s : u.heap.size ≤ z.heap.size
section
variable {w u z v : World} {X : Nat} {ox : Obj} {B : Nat} {F : Nat → Prop} {G : Nat} {H : Nat → Prop} {F1 H1 : Nat → Prop} {l m l' m' : List Mb}
theorem Te.below (h : Te w u X ox B F G H z F1 H1 l m) (hb : Below z.heap.size z v) : Te w u X ox B F G H v F1 H1 l m :=
  ⟨h.t.below hb, heap_below h.x hb, h.nx, h.r.trans h.s (Rs.below hb), Nat.le_trans h.s hb.size⟩
theorem Te.stepP (h : Te w u X ox B F G H z F1 H1 l m) (p : Po 52 59 z v B F1 l') : ∃ F2, Te w u X ox B F G H v F2 H1 l' m := by
  obtain ⟨F2, t, k, n⟩ := h.t.stepP p
  have r : Rs z v F1 H1 F2 H1 := Rs.p k n
  exact ⟨F2, t, r.heap h.x h.nx.1 h.nx.2, (r X (heap_lt h.x) h.nx.1 h.nx.2).2, h.r.trans h.s r, Nat.le_trans h.s k.size⟩
theorem Te.stepR (h : Te w u X ox B F G H z F1 H1 l m) (p : Po 29 38 z v G H1 m') : ∃ H2, Te w u X ox B F G H v F1 H2 l m' := by
  obtain ⟨H2, t, k, n⟩ := h.t.stepR p
  have r : Rs z v F1 H1 F1 H2 := Rs.r k n
  exact ⟨H2, t, r.heap h.x h.nx.1 h.nx.2, (r X (heap_lt h.x) h.nx.1 h.nx.2).2, h.r.trans h.s r, Nat.le_trans h.s k.size⟩
theorem Te.start (h : Td w u B F G H l m) (ox : Obj) : Te w u u.heap.size ox B F G H (u.alloc ox) F H l m :=
  ⟨h.below (below_alloc _ _), heap_new _ _, ⟨fun q => by have := h.p.bd _ q; omega, fun q => by have := h.r.bd _ q; omega⟩, Rs.below (below_alloc _ _), (below_alloc u ox).size⟩
end
set_option maxRecDepth 100000 in
set_option maxHeartbeats 3200000 in
theorem does0 (w u : World) (B : Nat) (F : Nat → Prop) (G : Nat) (H : Nat → Prop) (l : List Mb) (g : Int) (h : Td w u B F G H l l) :
    Calls Try.prog 10 #[.pointer (some ⟨B, 0, none⟩), .pointer (some ⟨G, 0, none⟩), .agg #[.int .i64 0, .int .i64 g]] u fun r w' => r = .returned (.bool true) ∧ DoP w u w' B F G H (spL l g) := by
  have H1 := hide (Te.start h (.cells #[.int .i64 0, .int .i64 g] 31))
  have CP := hide fun z H1 m (hz : Te w u u.heap.size (.cells #[.int .i64 0, .int .i64 g] 31) B F G H z F H1 l m) => Calls.mono (spawn_any B F l g z hz.t.p) (R' := fun r w' => r = .returned (.tuple #[.int .i64 (spV l g), .int .i64 (spE l g)]) ∧ ∃ F1, Te w u u.heap.size (.cells #[.int .i64 0, .int .i64 g] 31) B F G H w' F1 H1 (spL l g) m) (fun r v q => ⟨q.1, hz.stepP q.2⟩)
  have CR := hide fun z F1 m (hz : Te w u u.heap.size (.cells #[.int .i64 0, .int .i64 g] 31) B F G H z F1 H m l) => Calls.mono (rspawn_any G H l g z hz.t.r) (R' := fun r w' => r = .returned (.tuple #[.int .i64 (spV l g), .int .i64 (spE l g)]) ∧ ∃ H1, Te w u u.heap.size (.cells #[.int .i64 0, .int .i64 g] 31) B F G H w' F1 H1 m (spL l g)) (fun r v q => ⟨q.1, hz.stepR q.2⟩)
  generalize spV l g = vv at CP CR
  generalize spE l g = ee at CP CR
  generalize spL l g = l' at CP CR ⊢
  clear h
  go_enter Try.func10, Try.ntmps10
  have y0 : (u.alloc (.cells #[.int .i64 0, .int .i64 g] 31)).cell? ⟨u.heap.size, 0, none⟩ = some (.int .i64 0) := cell_of H1.out.x 0
  have y1 : (u.alloc (.cells #[.int .i64 0, .int .i64 g] 31)).cell? ⟨u.heap.size, 1, none⟩ = some (.int .i64 g) := cell_of H1.out.x 1
  go_wp2_with fail
  generalize u.alloc (.cells #[.int .i64 0, .int .i64 g] 31) = U1 at H1 y0 y1 ⊢
  generalize u.heap.size = X at H1 CP CR y0 y1 ⊢
  refine (CP.out _ _ _ H1.out).mono ?_
  rintro r z1 ⟨rfl, F1, t1⟩
  have T1 := hide t1
  clear t1 H1 y0 y1
  have y1 : z1.cell? ⟨X, 1, none⟩ = some (.int .i64 g) := cell_of T1.out.x 1
  go_wp2_with fail
  refine (CR.out _ _ _ T1.out).mono ?_
  rintro r z2 ⟨rfl, G1, t2⟩
  have FIN : Hid (DoP w u z2 B F G H l') := ⟨_, _, t2.t, t2.r⟩
  clear t2 T1 CP CR y1
  go_wp2_with fail
  go_ret
  exact ⟨ret_bool (by simp), FIN.out⟩
set_option maxRecDepth 100000 in
set_option maxHeartbeats 3200000 in
theorem does1 (w u : World) (B : Nat) (F : Nat → Prop) (G : Nat) (H : Nat → Prop) (l : List Mb) (g : Int) (h : Td w u B F G H l l) :
    Calls Try.prog 10 #[.pointer (some ⟨B, 0, none⟩), .pointer (some ⟨G, 0, none⟩), .agg #[.int .i64 1, .int .i64 g]] u fun r w' => r = .returned (.bool true) ∧ DoP w u w' B F G H (spL l g) := by
  have H1 := hide (Te.start h (.cells #[.int .i64 1, .int .i64 g] 31))
  have CP := hide fun z H1 m (hz : Te w u u.heap.size (.cells #[.int .i64 1, .int .i64 g] 31) B F G H z F H1 l m) => Calls.mono (spawn_any B F l g z hz.t.p) (R' := fun r w' => r = .returned (.tuple #[.int .i64 (spV l g), .int .i64 (spE l g)]) ∧ ∃ F1, Te w u u.heap.size (.cells #[.int .i64 1, .int .i64 g] 31) B F G H w' F1 H1 (spL l g) m) (fun r v q => ⟨q.1, hz.stepP q.2⟩)
  have CR := hide fun z F1 m (hz : Te w u u.heap.size (.cells #[.int .i64 1, .int .i64 g] 31) B F G H z F1 H m l) => Calls.mono (rspawn_any G H l g z hz.t.r) (R' := fun r w' => r = .returned (.tuple #[.int .i64 (spV l g), .int .i64 (spE l g)]) ∧ ∃ H1, Te w u u.heap.size (.cells #[.int .i64 1, .int .i64 g] 31) B F G H w' F1 H1 m (spL l g)) (fun r v q => ⟨q.1, hz.stepR q.2⟩)
  generalize spV l g = vv at CP CR
  generalize spE l g = ee at CP CR
  generalize spL l g = l' at CP CR ⊢
  clear h
  go_enter Try.func10, Try.ntmps10
  have y0 : (u.alloc (.cells #[.int .i64 1, .int .i64 g] 31)).cell? ⟨u.heap.size, 0, none⟩ = some (.int .i64 1) := cell_of H1.out.x 0
  have y1 : (u.alloc (.cells #[.int .i64 1, .int .i64 g] 31)).cell? ⟨u.heap.size, 1, none⟩ = some (.int .i64 g) := cell_of H1.out.x 1
  go_wp2_with fail
  generalize u.alloc (.cells #[.int .i64 1, .int .i64 g] 31) = U1 at H1 y0 y1 ⊢
  generalize u.heap.size = X at H1 CP CR y0 y1 ⊢
  refine (CP.out _ _ _ H1.out).mono ?_
  rintro r z1 ⟨rfl, F1, t1⟩
  have T1 := hide t1
  clear t1 H1 y0 y1
  have y1 : z1.cell? ⟨X, 1, none⟩ = some (.int .i64 g) := cell_of T1.out.x 1
  go_wp2_with fail
  refine (CR.out _ _ _ T1.out).mono ?_
  rintro r z2 ⟨rfl, G1, t2⟩
  have FIN : Hid (DoP w u z2 B F G H l') := ⟨_, _, t2.t, t2.r⟩
  clear t2 T1 CP CR y1
  go_wp2_with fail
  go_ret
  exact ⟨ret_bool (by simp), FIN.out⟩
set_option maxRecDepth 100000 in
set_option maxHeartbeats 3200000 in
theorem does2 (w u : World) (B : Nat) (F : Nat → Prop) (G : Nat) (H : Nat → Prop) (l : List Mb) (K : Nat) (g : Int) (h : Td w u B F G H l l) (hn : Bn K l) (hK : K ≤ 100000) :
    Calls Try.prog 10 #[.pointer (some ⟨B, 0, none⟩), .pointer (some ⟨G, 0, none⟩), .agg #[.int .i64 2, .int .i64 g]] u fun r w' => r = .returned (.bool true) ∧ DoP w u w' B F G H (chL l g 0 0 1) := by
  have H1 := hide (Te.start h (.cells #[.int .i64 2, .int .i64 g] 31))
  have CP := hide fun z H1 m (hz : Te w u u.heap.size (.cells #[.int .i64 2, .int .i64 g] 31) B F G H z F H1 l m) => Calls.mono (go_any B F l K g z hz.t.p hn hK) (R' := fun r w' => r = .returned (.int .i64 (chE l g 0)) ∧ ∃ F1, Te w u u.heap.size (.cells #[.int .i64 2, .int .i64 g] 31) B F G H w' F1 H1 (chL l g 0 0 1) m) (fun r v q => ⟨q.1, hz.stepP q.2⟩)
  have CR := hide fun z F1 m (hz : Te w u u.heap.size (.cells #[.int .i64 2, .int .i64 g] 31) B F G H z F1 H m l) => Calls.mono (rturn00 G H l K g z hz.t.r hn hK) (R' := fun r w' => r = .returned (.int .i64 (chE l g 0)) ∧ ∃ H1, Te w u u.heap.size (.cells #[.int .i64 2, .int .i64 g] 31) B F G H w' F1 H1 m (chL l g 0 0 1)) (fun r v q => ⟨q.1, hz.stepR q.2⟩)
  generalize chE l g 0 = ee at CP CR
  generalize chL l g 0 0 1 = l' at CP CR ⊢
  clear h hn
  go_enter Try.func10, Try.ntmps10
  have y0 : (u.alloc (.cells #[.int .i64 2, .int .i64 g] 31)).cell? ⟨u.heap.size, 0, none⟩ = some (.int .i64 2) := cell_of H1.out.x 0
  have y1 : (u.alloc (.cells #[.int .i64 2, .int .i64 g] 31)).cell? ⟨u.heap.size, 1, none⟩ = some (.int .i64 g) := cell_of H1.out.x 1
  go_wp2_with fail
  generalize u.alloc (.cells #[.int .i64 2, .int .i64 g] 31) = U1 at H1 y0 y1 ⊢
  generalize u.heap.size = X at H1 CP CR y0 y1 ⊢
  have H3 := hide (H1.out.below (bdrew1 _))
  clear H1
  go_region_held3 (fun w' => w'.cell? ⟨X, 1, none⟩ = some (.int .i64 g))
    (first
      | go_keep
      | exact cell_of tP.x 1
      | exact cell_of tR.x 1)
    (first
      | (go_at_call 21; (first | refine (CP.out _ _ _ H3.out).mono ?_ | refine (CP.out _ _ _ tR).mono ?_); rintro r z1 ⟨rfl, F1, tP⟩)
      | (go_at_call 26; (first | refine (CR.out _ _ _ H3.out).mono ?_ | refine (CR.out _ _ _ tP).mono ?_); rintro r z2 ⟨rfl, G1, tR⟩))
  have FIN : Hid (DoP w u z2 B F G H l') := ⟨_, _, tR.t, tR.r⟩
  clear tP tR CP CR H3 y0 y1
  go_wp2_with fail
  go_ret
  exact ⟨ret_bool (by simp), FIN.out⟩
set_option maxRecDepth 100000 in
set_option maxHeartbeats 3200000 in
theorem does3 (w u : World) (B : Nat) (F : Nat → Prop) (G : Nat) (H : Nat → Prop) (l : List Mb) (K : Nat) (g : Int) (h : Td w u B F G H l l) (hn : Bn K l) (hK : K ≤ 100000) :
    Calls Try.prog 10 #[.pointer (some ⟨B, 0, none⟩), .pointer (some ⟨G, 0, none⟩), .agg #[.int .i64 3, .int .i64 g]] u fun r w' => r = .returned (.bool true) ∧ DoP w u w' B F G H (chL l g 0 1 0) := by
  have H1 := hide (Te.start h (.cells #[.int .i64 3, .int .i64 g] 31))
  have CP := hide fun z H1 m (hz : Te w u u.heap.size (.cells #[.int .i64 3, .int .i64 g] 31) B F G H z F H1 l m) => Calls.mono (park_any B F l K g z hz.t.p hn hK) (R' := fun r w' => r = .returned (.int .i64 (chE l g 0)) ∧ ∃ F1, Te w u u.heap.size (.cells #[.int .i64 3, .int .i64 g] 31) B F G H w' F1 H1 (chL l g 0 1 0) m) (fun r v q => ⟨q.1, hz.stepP q.2⟩)
  have CR := hide fun z F1 m (hz : Te w u u.heap.size (.cells #[.int .i64 3, .int .i64 g] 31) B F G H z F1 H m l) => Calls.mono (rturn01 G H l K g z hz.t.r hn hK) (R' := fun r w' => r = .returned (.int .i64 (chE l g 0)) ∧ ∃ H1, Te w u u.heap.size (.cells #[.int .i64 3, .int .i64 g] 31) B F G H w' F1 H1 m (chL l g 0 1 0)) (fun r v q => ⟨q.1, hz.stepR q.2⟩)
  generalize chE l g 0 = ee at CP CR
  generalize chL l g 0 1 0 = l' at CP CR ⊢
  clear h hn
  go_enter Try.func10, Try.ntmps10
  have y0 : (u.alloc (.cells #[.int .i64 3, .int .i64 g] 31)).cell? ⟨u.heap.size, 0, none⟩ = some (.int .i64 3) := cell_of H1.out.x 0
  have y1 : (u.alloc (.cells #[.int .i64 3, .int .i64 g] 31)).cell? ⟨u.heap.size, 1, none⟩ = some (.int .i64 g) := cell_of H1.out.x 1
  go_wp2_with fail
  generalize u.alloc (.cells #[.int .i64 3, .int .i64 g] 31) = U1 at H1 y0 y1 ⊢
  generalize u.heap.size = X at H1 CP CR y0 y1 ⊢
  have H3 := hide (H1.out.below (bdrew1 _))
  clear H1
  go_region_held3 (fun w' => w'.cell? ⟨X, 1, none⟩ = some (.int .i64 g))
    (first
      | go_keep
      | exact cell_of tP.x 1
      | exact cell_of tR.x 1)
    (first
      | (go_at_call 22; (first | refine (CP.out _ _ _ H3.out).mono ?_ | refine (CP.out _ _ _ tR).mono ?_); rintro r z1 ⟨rfl, F1, tP⟩)
      | (go_at_call 26; (first | refine (CR.out _ _ _ H3.out).mono ?_ | refine (CR.out _ _ _ tP).mono ?_); rintro r z2 ⟨rfl, G1, tR⟩))
  have FIN : Hid (DoP w u z2 B F G H l') := ⟨_, _, tR.t, tR.r⟩
  clear tP tR CP CR H3 y0 y1
  go_wp2_with fail
  go_ret
  exact ⟨ret_bool (by simp), FIN.out⟩
set_option maxRecDepth 100000 in
set_option maxHeartbeats 3200000 in
theorem does4 (w u : World) (B : Nat) (F : Nat → Prop) (G : Nat) (H : Nat → Prop) (l : List Mb) (K : Nat) (g : Int) (h : Td w u B F G H l l) (hn : Bn K l) (hK : K ≤ 100000) :
    Calls Try.prog 10 #[.pointer (some ⟨B, 0, none⟩), .pointer (some ⟨G, 0, none⟩), .agg #[.int .i64 4, .int .i64 g]] u fun r w' => r = .returned (.bool true) ∧ DoP w u w' B F G H (chL l g 1 0 1) := by
  have H1 := hide (Te.start h (.cells #[.int .i64 4, .int .i64 g] 31))
  have CP := hide fun z H1 m (hz : Te w u u.heap.size (.cells #[.int .i64 4, .int .i64 g] 31) B F G H z F H1 l m) => Calls.mono (wake_any B F l K g z hz.t.p hn hK) (R' := fun r w' => r = .returned (.int .i64 (chE l g 1)) ∧ ∃ F1, Te w u u.heap.size (.cells #[.int .i64 4, .int .i64 g] 31) B F G H w' F1 H1 (chL l g 1 0 1) m) (fun r v q => ⟨q.1, hz.stepP q.2⟩)
  have CR := hide fun z F1 m (hz : Te w u u.heap.size (.cells #[.int .i64 4, .int .i64 g] 31) B F G H z F1 H m l) => Calls.mono (rturn10 G H l K g z hz.t.r hn hK) (R' := fun r w' => r = .returned (.int .i64 (chE l g 1)) ∧ ∃ H1, Te w u u.heap.size (.cells #[.int .i64 4, .int .i64 g] 31) B F G H w' F1 H1 m (chL l g 1 0 1)) (fun r v q => ⟨q.1, hz.stepR q.2⟩)
  generalize chE l g 1 = ee at CP CR
  generalize chL l g 1 0 1 = l' at CP CR ⊢
  clear h hn
  go_enter Try.func10, Try.ntmps10
  have y0 : (u.alloc (.cells #[.int .i64 4, .int .i64 g] 31)).cell? ⟨u.heap.size, 0, none⟩ = some (.int .i64 4) := cell_of H1.out.x 0
  have y1 : (u.alloc (.cells #[.int .i64 4, .int .i64 g] 31)).cell? ⟨u.heap.size, 1, none⟩ = some (.int .i64 g) := cell_of H1.out.x 1
  go_wp2_with fail
  generalize u.alloc (.cells #[.int .i64 4, .int .i64 g] 31) = U1 at H1 y0 y1 ⊢
  generalize u.heap.size = X at H1 CP CR y0 y1 ⊢
  have H3 := hide (H1.out.below (bdrew1 _))
  clear H1
  go_region_held3 (fun w' => w'.cell? ⟨X, 1, none⟩ = some (.int .i64 g))
    (first
      | go_keep
      | exact cell_of tP.x 1
      | exact cell_of tR.x 1)
    (first
      | (go_at_call 23; (first | refine (CP.out _ _ _ H3.out).mono ?_ | refine (CP.out _ _ _ tR).mono ?_); rintro r z1 ⟨rfl, F1, tP⟩)
      | (go_at_call 26; (first | refine (CR.out _ _ _ H3.out).mono ?_ | refine (CR.out _ _ _ tP).mono ?_); rintro r z2 ⟨rfl, G1, tR⟩))
  have FIN : Hid (DoP w u z2 B F G H l') := ⟨_, _, tR.t, tR.r⟩
  clear tP tR CP CR H3 y0 y1
  go_wp2_with fail
  go_ret
  exact ⟨ret_bool (by simp), FIN.out⟩
set_option maxRecDepth 100000 in
set_option maxHeartbeats 3200000 in
theorem does5 (w u : World) (B : Nat) (F : Nat → Prop) (G : Nat) (H : Nat → Prop) (l : List Mb) (K : Nat) (g : Int) (h : Td w u B F G H l l) (hn : Bn K l) (hK : K ≤ 100000) :
    Calls Try.prog 10 #[.pointer (some ⟨B, 0, none⟩), .pointer (some ⟨G, 0, none⟩), .agg #[.int .i64 5, .int .i64 g]] u fun r w' => r = .returned (.bool true) ∧ DoP w u w' B F G H (chL l g 0 2 0) := by
  have H1 := hide (Te.start h (.cells #[.int .i64 5, .int .i64 g] 31))
  have CP := hide fun z H1 m (hz : Te w u u.heap.size (.cells #[.int .i64 5, .int .i64 g] 31) B F G H z F H1 l m) => Calls.mono (exit_any B F l K g z hz.t.p hn hK) (R' := fun r w' => r = .returned (.int .i64 (chE l g 0)) ∧ ∃ F1, Te w u u.heap.size (.cells #[.int .i64 5, .int .i64 g] 31) B F G H w' F1 H1 (chL l g 0 2 0) m) (fun r v q => ⟨q.1, hz.stepP q.2⟩)
  have CR := hide fun z F1 m (hz : Te w u u.heap.size (.cells #[.int .i64 5, .int .i64 g] 31) B F G H z F1 H m l) => Calls.mono (rturn02 G H l K g z hz.t.r hn hK) (R' := fun r w' => r = .returned (.int .i64 (chE l g 0)) ∧ ∃ H1, Te w u u.heap.size (.cells #[.int .i64 5, .int .i64 g] 31) B F G H w' F1 H1 m (chL l g 0 2 0)) (fun r v q => ⟨q.1, hz.stepR q.2⟩)
  generalize chE l g 0 = ee at CP CR
  generalize chL l g 0 2 0 = l' at CP CR ⊢
  clear h hn
  go_enter Try.func10, Try.ntmps10
  have y0 : (u.alloc (.cells #[.int .i64 5, .int .i64 g] 31)).cell? ⟨u.heap.size, 0, none⟩ = some (.int .i64 5) := cell_of H1.out.x 0
  have y1 : (u.alloc (.cells #[.int .i64 5, .int .i64 g] 31)).cell? ⟨u.heap.size, 1, none⟩ = some (.int .i64 g) := cell_of H1.out.x 1
  go_wp2_with fail
  generalize u.alloc (.cells #[.int .i64 5, .int .i64 g] 31) = U1 at H1 y0 y1 ⊢
  generalize u.heap.size = X at H1 CP CR y0 y1 ⊢
  have H3 := hide (H1.out.below (bdrew1 _))
  clear H1
  go_region_held3 (fun w' => w'.cell? ⟨X, 1, none⟩ = some (.int .i64 g))
    (first
      | go_keep
      | exact cell_of tP.x 1
      | exact cell_of tR.x 1)
    (first
      | (go_at_call 24; (first | refine (CP.out _ _ _ H3.out).mono ?_ | refine (CP.out _ _ _ tR).mono ?_); rintro r z1 ⟨rfl, F1, tP⟩)
      | (go_at_call 26; (first | refine (CR.out _ _ _ H3.out).mono ?_ | refine (CR.out _ _ _ tP).mono ?_); rintro r z2 ⟨rfl, G1, tR⟩))
  have FIN : Hid (DoP w u z2 B F G H l') := ⟨_, _, tR.t, tR.r⟩
  clear tP tR CP CR H3 y0 y1
  go_wp2_with fail
  go_ret
  exact ⟨ret_bool (by simp), FIN.out⟩

theorem doesN (w u : World) (B : Nat) (F : Nat → Prop) (G : Nat) (H : Nat → Prop) (l : List Mb) (what g : Int) (h : Td w u B F G H l l) (h0 : what ≠ 0) (h1 : what ≠ 1) (h2 : what ≠ 2) (h3 : what ≠ 3) (h4 : what ≠ 4) (h5 : what ≠ 5) :
    Calls Try.prog 10 #[.pointer (some ⟨B, 0, none⟩), .pointer (some ⟨G, 0, none⟩), .agg #[.int .i64 what, .int .i64 g]] u fun r w' => r = .returned (.bool true) ∧ DoP w u w' B F G H l := by
  have b1 := below_alloc u (.cells #[.int .i64 what, .int .i64 g] 31)
  have FIN : Hid (DoP w u (u.alloc (.cells #[.int .i64 what, .int .i64 g] 31)) B F G H l) := ⟨F, H, h.below b1, Rs.below b1⟩
  have d0 : (what == 0) = false := by simpa using h0
  have d1 : (what == 1) = false := by simpa using h1
  have d2 : (what == 2) = false := by simpa using h2
  have d3 : (what == 3) = false := by simpa using h3
  have d4 : (what == 4) = false := by simpa using h4
  have d5 : (what == 5) = false := by simpa using h5
  clear h b1 h0 h1 h2 h3 h4 h5
  go_enter Try.func10, Try.ntmps10
  go_wp2_with fail
  go_ret
  exact ⟨rfl, FIN.out⟩
/-- what a step makes of a crew -/
def stL (what g : Int) (l : List Mb) : List Mb := if what = 0 then spL l g else if what = 1 then spL l g else if what = 2 then chL l g 0 0 1 else if what = 3 then chL l g 0 1 0 else if what = 4 then chL l g 1 0 1 else if what = 5 then chL l g 0 2 0 else l
theorem Bn.st {K : Nat} {l : List Mb} (h : Bn K l) (what g : Int) : Bn (K + 1) (stL what g l) := by
  unfold stL
  split
  · exact (h.sp g).mono (Nat.le_succ _)
  split
  · exact (h.sp g).mono (Nat.le_succ _)
  split
  · exact h.ch g 0 0 1 (by decide) (by decide)
  split
  · exact h.ch g 0 1 0 (by decide) (by decide)
  split
  · exact h.ch g 1 0 1 (by decide) (by decide)
  split
  · exact h.ch g 0 2 0 (by decide) (by decide)
  · exact h.mono (Nat.le_succ _)
theorem does_any (w u : World) (B : Nat) (F : Nat → Prop) (G : Nat) (H : Nat → Prop) (l : List Mb) (K : Nat) (what g : Int) (h : Td w u B F G H l l) (hn : Bn K l) (hK : K ≤ 100000) :
    Calls Try.prog 10 #[.pointer (some ⟨B, 0, none⟩), .pointer (some ⟨G, 0, none⟩), .agg #[.int .i64 what, .int .i64 g]] u fun r w' => r = .returned (.bool true) ∧ DoP w u w' B F G H (stL what g l) := by
  unfold stL
  by_cases h0 : what = 0
  · subst h0
    exact does0 w u B F G H l g h
  rw [if_neg h0]
  by_cases h1 : what = 1
  · subst h1
    exact does1 w u B F G H l g h
  rw [if_neg h1]
  by_cases h2 : what = 2
  · subst h2
    exact does2 w u B F G H l K g h hn hK
  rw [if_neg h2]
  by_cases h3 : what = 3
  · subst h3
    exact does3 w u B F G H l K g h hn hK
  rw [if_neg h3]
  by_cases h4 : what = 4
  · subst h4
    exact does4 w u B F G H l K g h hn hK
  rw [if_neg h4]
  by_cases h5 : what = 5
  · subst h5
    exact does5 w u B F G H l K g h hn hK
  rw [if_neg h5]
  exact doesN w u B F G H l what g h h0 h1 h2 h3 h4 h5
/-- the program's crew alone, new since w -/
structure Lv (w u : World) (B : Nat) (F : Nat → Prop) (l : List Mb) : Prop where
  p : PC u B F l
  b : Below w.heap.size w u
  lf : ∀ x, F x → w.heap.size ≤ x
theorem Lv.below {w u v : World} {B : Nat} {F : Nat → Prop} {l : List Mb} (h : Lv w u B F l) (hb : Below u.heap.size u v) : Lv w v B F l := ⟨h.p.below hb, btr h.b hb, h.lf⟩
theorem Lv.step {w u v : World} {B : Nat} {F : Nat → Prop} {l l' : List Mb} (h : Lv w u B F l) (p : Po 52 59 u v B F l') : ∃ F', Lv w v B F' l' := by
  obtain ⟨F', q, k, n⟩ := p
  refine ⟨F', q, KF.below h.b k h.lf, fun x hx => ?_⟩
  rcases n x hx with e | e
  · exact h.lf x e
  · exact Nat.le_trans h.b.size e
set_option maxRecDepth 100000 in
set_option maxHeartbeats 1600000 in
theorem two_any (w : World) : Calls Try.prog 9 #[] w fun r w' => r = .returned (.bool true) ∧ Below w.heap.size w w' := by
  go_enter Try.func9, Try.ntmps9
  go_wp2_with fail
  refine (new_any _).mono ?_
  rintro r w1 ⟨rfl, p1, b1⟩
  have L1 : Hid (Lv w w1 w.heap.size _ []) := ⟨p1, b1, fun x e => Nat.le_of_eq (Eq.symm e)⟩
  clear p1 b1
  generalize w.heap.size = B at L1 ⊢
  have S2 := hide (spawn_any B _ [] 0 w1 L1.out.p)
  rw [show spV [] 0 = 0 from rfl, show spE [] 0 = 0 from rfl, show spL [] 0 = [⟨0, 0, 0⟩] from rfl] at S2
  go_wp2_with fail
  refine S2.out.mono ?_
  rintro r w2 ⟨rfl, q2⟩
  obtain ⟨F2, l2⟩ := L1.out.step q2
  have L2 := hide l2
  clear l2 q2 L1 S2
  have S3 := hide (spawn_any B _ [⟨0, 0, 0⟩] 1 w2 L2.out.p)
  rw [show spV [⟨0, 0, 0⟩] 1 = 1 from rfl, show spE [⟨0, 0, 0⟩] 1 = 0 from rfl, show spL [⟨0, 0, 0⟩] 1 = [⟨0, 0, 0⟩, ⟨1, 0, 0⟩] from rfl] at S3
  go_wp2_with fail
  refine S3.out.mono ?_
  rintro r w3 ⟨rfl, q3⟩
  obtain ⟨F3, l3⟩ := L2.out.step q3
  have L3 := hide l3
  clear l3 q3 L2 S3
  have S4 := hide (park_any B _ [⟨0, 0, 0⟩, ⟨1, 0, 0⟩] 0 0 w3 L3.out.p (by intro x hx; simp at hx; rcases hx with rfl | rfl <;> decide) (by decide))
  rw [show chE [⟨0, 0, 0⟩, ⟨1, 0, 0⟩] 0 0 = 0 from rfl, show chL [⟨0, 0, 0⟩, ⟨1, 0, 0⟩] 0 0 1 0 = [⟨0, 0, 1⟩, ⟨1, 0, 0⟩] from rfl] at S4
  go_wp2_with fail
  refine S4.out.mono ?_
  rintro r w4 ⟨rfl, q4⟩
  obtain ⟨F4, l4⟩ := L3.out.step q4
  have L4 := hide l4
  clear l4 q4 L3 S4
  have S5 := hide (exit_any B _ [⟨0, 0, 1⟩, ⟨1, 0, 0⟩] 0 1 w4 L4.out.p (by intro x hx; simp at hx; rcases hx with rfl | rfl <;> decide) (by decide))
  rw [show chE [⟨0, 0, 1⟩, ⟨1, 0, 0⟩] 1 0 = 0 from rfl, show chL [⟨0, 0, 1⟩, ⟨1, 0, 0⟩] 1 0 2 0 = [⟨0, 0, 1⟩, ⟨1, 0, 2⟩] from rfl] at S5
  go_wp2_with fail
  refine S5.out.mono ?_
  rintro r w5 ⟨rfl, q5⟩
  obtain ⟨F5, l5⟩ := L4.out.step q5
  have L5 := hide l5
  clear l5 q5 L4 S5
  have S6 := hide (able_any B _ [⟨0, 0, 1⟩, ⟨1, 0, 2⟩] w5 L5.out.p)
  rw [show abl [⟨0, 0, 1⟩, ⟨1, 0, 2⟩] = [] from rfl, List.length_nil] at S6
  go_wp2_with fail
  refine S6.out.mono ?_
  rintro r w6 ⟨ob, d, rfl, -, b6⟩
  have L6 := hide (L5.out.below b6)
  clear b6 L5 S6
  have S7 := hide (over_any B _ [⟨0, 0, 1⟩, ⟨1, 0, 2⟩] 0 w6 L6.out.p (by intro x hx; simp at hx; rcases hx with rfl | rfl <;> decide))
  rw [show ovr [⟨0, 0, 1⟩, ⟨1, 0, 2⟩] = 2 from rfl] at S7
  go_wp2_with fail
  refine S7.out.mono ?_
  rintro r w7 ⟨rfl, b7⟩
  have B7 := hide (btr L6.out.b b7)
  clear b7 L6 S7
  go_wp2_with fail
  go_ret
  exact ⟨rfl, B7.out⟩
end Cr
end Go.Proofs.Ytgpmefbmbfbjcaa
