import Derived.Test.YtblfimobiibmjaaGreatZjAh15
import Derived.ScopeJumps
import Derived.Shelf.Strings.BuilderK
import Derived.Deep.DeepCutAuto
import Derived.Deep.RegionWith
import Derived.Lib.Slices
import Derived.Deep.RegionHeld3
namespace Go.Proofs.YtblfimobiibmjaaGreat
open Go.ChangeShapes Go.WideShapes Go.ChangeAt Go.RowKit
namespace Rlo
open Ba Lo
set_option maxRecDepth 100000 in
set_option maxHeartbeats 1600000 in
theorem rverdict_any (L N : Nat) (col : Nat → Nat) (s : Lm) (w : World) (h : RW w col L N s) :
 Calls Tryz.prog 61 #[.pointer (some ⟨L, 0, none⟩)] w fun r w' => r = .returned (.int .i64 (verd s)) ∧ Below w.heap.size w w' := by
 obtain ⟨C, B, FB, q, pa, pc, oa, oc, bs, Fs, cs, ta, tc, h⟩ := h
 have y17 := cell_of h.hp 17
 have y6 := cell_of h.hp 6
 simp [rcs] at y17 y6
 unfold verd
 cases hp : s.pk
 ·rw [hp] at y17
  simp only [Bool.false_eq_true, if_false]
  have OV := hide (Cr.rover_any B FB s.cr w h.cr)
  generalize Cr.ovr s.cr = ov at OV ⊢
  by_cases h0 : ov = 0
  ·subst h0
   simp only [ne_eq, not_true, if_false]
   obtain ⟨la, ca, lb, cb, P, D, p0, d0, q0, ⟨-, q2, q3, q4, -⟩, -⟩ := h.cu
   have Y5 := hide (fun u (hb : Below w.heap.size w u) => cell_of (heap_below h.hp hb) 5)
   have Q0 := hide (fun u (hb : Below w.heap.size w u) => heap_below q0 hb)
   have hl : s.p.length = p0.length - P := by rw [q3, List.length_drop]
   rw [hl]
   clear h q0 hl q3
   by_cases hP : p0.length - P = 0
   ·rw [if_pos hP]
    have hP' : decide ((p0.length : Int) ≤ (P : Int)) = true := decide_eq_true (by omega)
    go_enter Tryz.func61, Tryz.ntmps61
    go_wp2_with fail
    refine OV.out.mono ?_
    rintro r w1 ⟨rfl, b1⟩
    have z5 := Y5.out w1 b1
    have z0 := cell_of (Q0.out w1 b1) 0
    have z2 := cell_of (Q0.out w1 b1) 2
    simp [rcs] at z5 z0 z2
    have B1 := hide b1
    clear b1 OV Y5 Q0
    go_wp2_with fail
    go_quiet (fail)
    go_wp2_with fail
    go_ret
    exact ⟨rfl, btr B1.out (bdrew _ _)⟩
   ·rw [if_neg hP]
    have hP' : decide ((p0.length : Int) ≤ (P : Int)) = false := decide_eq_false (by omega)
    go_enter Tryz.func61, Tryz.ntmps61
    go_wp2_with fail
    refine OV.out.mono ?_
    rintro r w1 ⟨rfl, b1⟩
    have z5 := Y5.out w1 b1
    have z0 := cell_of (Q0.out w1 b1) 0
    have z2 := cell_of (Q0.out w1 b1) 2
    simp [rcs] at z5 z0 z2
    have B1 := hide b1
    clear b1 OV Y5 Q0
    go_wp2_with fail
    go_quiet (fail)
    go_wp2_with fail
    go_ret
    exact ⟨rfl, btr B1.out (bdrew _ _)⟩
  ·rw [if_pos h0]
   have h0' : (ov != 0) = true := by simp [h0]
   clear h
   go_enter Tryz.func61, Tryz.ntmps61
   go_wp2_with fail
   refine OV.out.mono ?_
   rintro r w1 ⟨rfl, b1⟩
   have B1 := hide b1
   clear b1
   go_wp2_with fail
   go_ret
   exact ⟨rfl, B1.out⟩
 ·rw [hp] at y17
  simp only [if_true]
  clear h
  go_enter Tryz.func61, Tryz.ntmps61
  go_wp2_with fail
  go_ret
  exact ⟨rfl, Below.refl _ _⟩
set_option maxRecDepth 100000 in
set_option maxHeartbeats 1600000 in
theorem rwho_go (L N : Nat) (col : Nat → Nat) (s : Lm) (w : World) (h : RW w col L N s) (hl : 0 < s.p.length) (ht : 0 ≤ nth s.p 0) (hA : 0 < (Cr.abl s.cr).length) (hm : (Cr.abl s.cr).length ≤ 1000) :
 Calls Tryz.prog 102 #[.pointer (some ⟨L, 0, none⟩)] w fun r w' => r = .returned (.int .i64 (whoN s)) ∧ Below w.heap.size w w' := by
 obtain ⟨C, B, FB, q, pa, pc, oa, oc, bs, Fs, cs, ta, tc, h⟩ := h
 obtain ⟨la, ca, lb, cb, P, D, p0, d0, q0, ⟨q1, q2, q3, q4, -⟩, -⟩ := h.cu
 have ew : whoN s = nth (Cr.abl s.cr) ((nth s.p 0).toNat % (Cr.abl s.cr).length) := by
  unfold whoN Pk.ofx
  rw [if_neg (by omega), if_neg (by omega)]
 rw [ew]
 rw [q3, List.length_drop] at hl
 rw [q3, Pk.nth_drop] at ht ⊢
 obtain ⟨b, off, rfl, hc⟩ := q1 P (by omega)
 obtain ⟨n, hn⟩ : ∃ n : Nat, nth p0 P = (n : Int) := ⟨(nth p0 P).toNat, by omega⟩
 rw [hn] at hc ⊢
 rw [Int.toNat_natCast]
 have AB := hide (fun u (hb : Below w.heap.size w u) => Cr.rable_any B FB s.cr u (h.cr.below hb))
 have Y6 := hide (fun u (hb : Below w.heap.size w u) => cell_of (heap_below h.hp hb) 6)
 have y5 := cell_of h.hp 5
 have y6 := cell_of h.hp 6
 have z0 := cell_of q0 0
 have z2 := cell_of q0 2
 simp [rcs] at y5 y6 z0 z2
 have hP0 : (0 : Int) ≤ (P : Int) := by omega
 have hP1 : (P : Int) < (p0.length : Int) := by omega
 have hn1 : ((n : Int) == -1) = false := by rw [beq_eq_false_iff_ne]; omega
 generalize Cr.abl s.cr = l at *
 have hlt := Nat.mod_lt n hA
 have h1 : ((l.length : Int) == 0) = false := by rw [beq_eq_false_iff_ne]; omega
 have h2 : (0 : Int) < (l.length : Int) := by omega
 have h3 : ((n : Int) % (l.length : Int)) = ((n % l.length : Nat) : Int) := by simp
 have h4 : ((n : Int).tmod (l.length : Int)) = ((n % l.length : Nat) : Int) := by rw [Int.tmod_eq_emod_of_nonneg (by omega), h3]
 have hlt' : ((n % l.length : Nat) : Int) < (l.length : Int) := by omega
 generalize n % l.length = m at *
 clear h q1 q0 q3 ew h3
 go_enter Tryz.func102, Tryz.ntmps102
 go_wp2_with fail
 go_quiet (fail)
 go_wp2_with fail
 refine (AB.out _ (bdrew _ _)).mono ?_
 rintro r w1 ⟨ob, d, rfl, a1, b1⟩
 obtain ⟨b', off', rfl, hc'⟩ := a1 m hlt
 have B1 := hide (btr (bdrew w _) b1)
 clear a1 b1 AB Y6
 go_wp2_with fail
 first
  | (go_ret; exact ⟨rfl, B1.out⟩)
  | (go_quiet (fail); go_wp2_with fail; go_ret; exact ⟨rfl, btr B1.out (bdrew _ _)⟩)
end Rlo
end Go.Proofs.YtblfimobiibmjaaGreat
namespace Go.Proofs.YtblfimobiibmjaaGreat
open Go.ChangeShapes Go.WideShapes Go.ChangeAt Go.RowKit
namespace Lo
open Ba
end Lo
end Go.Proofs.YtblfimobiibmjaaGreat
namespace Go.Proofs.YtblfimobiibmjaaGreat
open Go.ChangeShapes Go.WideShapes Go.ChangeAt Go.RowKit
namespace Lo
open Ba
def EsAt (w : World) (oa : Option Addr) (l : List Ev) : Prop :=
 ∀ k e, l[k]? = some e → ∃ b off, oa = some ⟨b, off, none⟩ ∧ ∀ j, j < 8 → w.cell? ⟨b, off + k * 8 + j, none⟩ = (En.evc e)[j]?
theorem EsAt.nil (w : World) (oa : Option Addr) : EsAt w oa [] := fun _ _ h => by simp at h
theorem evc_some (e : Ev) (j : Nat) (h : j < 8) : ∃ v, (En.evc e)[j]? = some v := ⟨_, Array.getElem?_eq_getElem h⟩
theorem EsAt.below {w w' : World} {oa : Option Addr} {l : List Ev} (h : EsAt w oa l) (hb : Below w.heap.size w w') : EsAt w' oa l := by
 intro k e hk
 obtain ⟨b, off, he, hc⟩ := h k e hk
 refine ⟨b, off, he, fun j hj => ?_⟩
 obtain ⟨v, hv⟩ := evc_some e j hj
 have := hc j hj
 rw [hv] at this ⊢
 exact (hb.cell (World.block_lt_of_cell? w _ this)).trans this
theorem ec_at : ∀ (l : List Ev) (k : Nat) (e : Ev), l[k]? = some e → ∀ r, r < 8 → (ec l)[k * 8 + r]? = (En.evc e)[r]?
 | [], k, e, h, r, hr => by simp at h
 | y :: l, 0, e, h, r, hr => by
   simp at h
   subst h
   have e1 : ec (y :: l) = (En.evc y).toList ++ ec l := rfl
   rw [e1, Nat.zero_mul, Nat.zero_add, List.getElem?_append_left (by simp [En.evc]; omega)]
   simp
 | y :: l, k + 1, e, h, r, hr => by
   have ih := ec_at l k e (by simpa using h) r hr
   have e1 : ec (y :: l) = (En.evc y).toList ++ ec l := rfl
   rw [e1, List.getElem?_append_right (by simp [En.evc]; omega), ← ih]
   congr 1
   simp [En.evc]
   omega
theorem cs_es {w : World} {b off : Nat} {l : List Ev} (h : ∀ j v, (ec l)[j]? = some v → w.cell? ⟨b, off + j, none⟩ = some v) : EsAt w (some ⟨b, off, none⟩) l := by
 intro k e hk
 refine ⟨b, off, rfl, fun j hj => ?_⟩
 have h1 := ec_at l k e hk j hj
 obtain ⟨v, hv⟩ := evc_some e j hj
 rw [hv] at h1 ⊢
 rw [Nat.add_assoc]
 exact h _ _ h1
theorem own_es {w : World} {base : Nat} {v : Value} {l : List Ev} (h : w.ownsRow base 50 8 v l.length (ec l)) : ∃ ob d, v = .slice ob l.length d ∧ EsAt w ob l ∧ l.length ≤ d ∧ ∀ a, ob = some a → base ≤ a.block := by
 rcases h.2 with ⟨rfl, h0⟩ | ⟨g, cap, cur, rfl, hbase, hg, hc, _, hcs, htk⟩
 ·obtain rfl := List.eq_nil_of_length_eq_zero h0
  exact ⟨none, 0, rfl, EsAt.nil _ _, Nat.le_refl _, fun a e => by cases e⟩
 ·refine ⟨_, cap, rfl, cs_es fun j v hj => ?_, by omega, fun a e => by cases e; exact hbase⟩
  have hjl := (List.getElem?_eq_some_iff.1 hj).1
  rw [ec_len] at hjl
  rw [Nat.zero_add, cell_of hg]
  rw [← htk, List.getElem?_take_of_lt (by omega)] at hj
  simpa using hj
end Lo
end Go.Proofs.YtblfimobiibmjaaGreat
namespace Go.Proofs.YtblfimobiibmjaaGreat
open Go.ChangeShapes Go.WideShapes Go.ChangeAt Go.RowKit
namespace Lo
open Ba
def opV (o : OpD) (oc : Option Addr) (cc : Nat) : Value := .agg #[.int .i64 o.kind, .int .i64 o.a, .int .i64 o.b, .slice oc o.cases.length cc, .bool o.def_]
theorem size_op : (Tryz.prog.info? 64).map (·.size) = some 5 := by kernel_rfl
theorem loadVar_op {w : World} {b : Nat} {c : Array Value} {t : TypeId} (h : w.heap[b]? = some (.cells c t (0, 0))) (hc : c.size = 5) : (loadVar 64 ⟨b, 0, none⟩).run Tryz.prog w = .ok (.agg c) w :=
 run_loadVar_row w b t _ _ _ _ h Tryz.underlying64 rfl (by rw [size_op, hc])
theorem set5 {w : World} {b : Nat} {t : TypeId} {a0 a1 a2 a3 a4 u0 u1 u2 u3 u4 : Value} (h : w.heap[b]? = some (.cells #[a0, a1, a2, a3, a4] t (0, 0))) : (((((w.setCell ⟨b, 0, none⟩ u0).setCell ⟨b, 1, none⟩ u1).setCell ⟨b, 2, none⟩ u2).setCell ⟨b, 3, none⟩ u3).setCell ⟨b, 4, none⟩ u4).heap[b]? = some (.cells #[u0, u1, u2, u3, u4] t (0, 0)) :=
 (Ba.heap_setCell_same (Ba.heap_setCell_same (Ba.heap_setCell_same (Ba.heap_setCell_same (Ba.heap_setCell_same h _) _) _) _) _).trans rfl
end Lo
end Go.Proofs.YtblfimobiibmjaaGreat
namespace Go.Proofs.YtblfimobiibmjaaGreat
open Go.ChangeShapes Go.WideShapes Go.ChangeAt Go.RowKit
namespace Lo
open Ba
theorem below_kb {n D : Nat} {w a b : World} (h : Below n w a) (k : KB D a b) (hD : n ≤ D) (hs : n ≤ a.heap.size) : Below n w b :=
 ⟨k.os.trans h.os, k.tape.trans h.tape, k.output.trans h.output, Nat.le_trans h.size k.size, fun x hx => (k.block x (Nat.lt_of_lt_of_le hx hs) (by omega)).trans (h.block x hx)⟩
theorem below5 {n b : Nat} {w a : World} (h : Below n w a) (hb : n ≤ b) (u0 u1 u2 u3 u4 : Value) : Below n w (((((a.setCell ⟨b, 0, none⟩ u0).setCell ⟨b, 1, none⟩ u1).setCell ⟨b, 2, none⟩ u2).setCell ⟨b, 3, none⟩ u3).setCell ⟨b, 4, none⟩ u4) :=
 ((((h.setCell (p := ⟨b, 0, none⟩) hb _).setCell (p := ⟨b, 1, none⟩) hb _).setCell (p := ⟨b, 2, none⟩) hb _).setCell (p := ⟨b, 3, none⟩) hb _).setCell (p := ⟨b, 4, none⟩) hb _
end Lo
end Go.Proofs.YtblfimobiibmjaaGreat
namespace Go.Proofs.YtblfimobiibmjaaGreat
open Go.ChangeShapes Go.WideShapes Go.ChangeAt Go.RowKit
namespace Rlo
open Ba Lo
set_option maxRecDepth 100000 in
set_option maxHeartbeats 1600000 in
theorem rop_any (L N : Nat) (col : Nat → Nat) (s : Lm) (k p q : Nat) (xs : Int) (w : World) (h : RW w col L N s) (hx : s.cr[k]? = some ⟨p, q, xs⟩) (hpl : p < s.ps.length) :
 Calls Tryz.prog 106 #[.pointer (some ⟨L, 0, none⟩), .int .i64 (k : Int)] w fun r w' => ∃ oc cc, r = .returned (opV (opOf s k) oc cc) ∧ De.CAt w' oc (opOf s k).cases ∧ (0 < (opOf s k).cases.length → ∀ a, oc = some a → a.block < N) ∧ Below w.heap.size w w' := by
 obtain ⟨C, B, FB, hd, pa, pc, oa, oc, bs, Fs, cs, ta, tc, h⟩ := h
 obtain ⟨P, hP⟩ : ∃ P, s.ps[p]? = some P := ⟨_, List.getElem?_eq_getElem hpl⟩
 obtain ⟨w0, hN, b0, PA⟩ := h.ps
 obtain ⟨ma, mc, hM⟩ := h.cr
 have hkl := (List.getElem?_eq_some_iff.1 hx).1
 obtain ⟨mb, rfl, m0, m1, m2⟩ := hM.at.1 k _ hx
 simp only at m0 m1 m2
 have y2 := cell_of h.hp 2
 have y6 := cell_of h.hp 6
 have x0 := cell_of hM.hp 0
 simp [rcs] at y2 y6 x0
 have hL := h.lt
 have hk0 : (0 : Int) ≤ (k : Int) := by omega
 have hk1 : (k : Int) < (s.cr.length : Int) := by omega
 have e : opOf s k = (P[q]?).getD exitO := by
  unfold opOf
  rw [show Cr.gt s.cr (k : Int) = some ⟨p, q, xs⟩ by unfold Cr.gt; rw [if_neg (by omega), Int.toNat_natCast]; exact hx]
  simp [Cr.one0, hP]
 rw [e]
 obtain ⟨pb, po, qa, qc, hpa, hpc, hO, hPl⟩ := PA p P hP
 subst hpa
 have zp := Sh.cellB hpc b0
 have p0 : (0 : Int) ≤ (p : Int) := by omega
 have p1 : (p : Int) < (s.ps.length : Int) := by omega
 have hB := World.block_lt_of_cell? w _ x0
 have hmb := World.block_lt_of_cell? w _ m0
 have hpb := World.block_lt_of_cell? w _ zp
 simp only at hB hmb hpb
 clear h hM
 by_cases hlt : q < P.length
 ·obtain ⟨o, hoq⟩ : ∃ o, P[q]? = some o := ⟨_, List.getElem?_eq_getElem hlt⟩
  rw [hoq]
  simp only [Option.getD_some]
  obtain ⟨ob, oo, ca, cc, hqa, ⟨k0, k1, k2, k3, k4⟩, hCA, -⟩ := hO q o hoq
  subst hqa
  have j0 := Sh.cellB k0 b0
  have j1 := Sh.cellB k1 b0
  have j2 := Sh.cellB k2 b0
  have j3 := Sh.cellB k3 b0
  have j4 := Sh.cellB k4 b0
  have hob := World.block_lt_of_cell? w _ j0
  simp only at hob
  have hq1 : ¬ ((P.length : Int) ≤ (q : Int)) := by omega
  have hq2 : (q : Int) < (P.length : Int) := by omega
  have hq0 : (0 : Int) ≤ (q : Int) := by omega
  have CA := hide hCA
  have B0 := hide b0
  clear hCA hO k0 k1 k2 k3 k4 hpc PA b0
  go_enter Tryz.func106, Tryz.ntmps106
  go_wp2_with fail
  have BB := hide (btr (below_alloc w (.cells #[.int .i64 0, .int .i64 0, .int .i64 0, .slice none 0 0, .bool false] 64)) (below_alloc _ (.cells #[.int .i64 (p : Int), .int .i64 (q : Int), .int .i64 xs] 199)))
  have Z3 := hide (heap_below (heap_new w (.cells #[.int .i64 0, .int .i64 0, .int .i64 0, .slice none 0 0, .bool false] 64)) (below_alloc _ (.cells #[.int .i64 (p : Int), .int .i64 (q : Int), .int .i64 xs] 199)))
  have V3 := hide (En.heap_new2 w (.cells #[.int .i64 0, .int .i64 0, .int .i64 0, .slice none 0 0, .bool false] 64) (.cells #[.int .i64 (p : Int), .int .i64 (q : Int), .int .i64 xs] 199))
  generalize (w.alloc (.cells #[.int .i64 0, .int .i64 0, .int .i64 0, .slice none 0 0, .bool false] 64)).alloc (.cells #[.int .i64 (p : Int), .int .i64 (q : Int), .int .i64 xs] 199) = W at *
  have v0 := cell_of V3.out 0
  have v1 := cell_of V3.out 1
  have c2 := Sh.cellB y2 BB.out
  have cp := Sh.cellB zp BB.out
  have i0 := Sh.cellB j0 BB.out
  have i1 := Sh.cellB j1 BB.out
  have i2 := Sh.cellB j2 BB.out
  have i3 := Sh.cellB j3 BB.out
  have i4 := Sh.cellB j4 BB.out
  have r0 := cell_of Z3.out 0
  have r1 := cell_of Z3.out 1
  have r2 := cell_of Z3.out 2
  have r3 := cell_of Z3.out 3
  have r4 := cell_of Z3.out 4
  have f0 := frozen_of Z3.out 0
  have f1 := frozen_of Z3.out 1
  have f2 := frozen_of Z3.out 2
  have f3 := frozen_of Z3.out 3
  have f4 := frozen_of Z3.out 4
  simp at v0 v1 r0 r1 r2 r3 r4
  clear V3 x0 m0 m1 m2 y6 y2 zp hL hB hmb hpb
  clear j0 j1 j2 j3 j4 hob
  go_wp2_with fail
  go_quiet (fail)
  go_wp2_with fail
  have BE := below5 (btr BB.out (bdrew W nq)) (Nat.le_refl _) (.int .i64 o.kind) (.int .i64 o.a) (.int .i64 o.b) (.slice ca o.cases.length cc) (.bool o.def_)
  refine bodyPost_ret (En.results_row1 Tryz.results106 _ _ _ _ rfl (loadVar_op (set5 (heap_below Z3.out (bdrew W nq))) rfl)) rfl ⟨ca, cc, rfl, (CA.out.below B0.out).below BE, fun h0 a e => ?_, BE⟩
  obtain ⟨b, off, e2, c0, -⟩ := CA.out 0 _ (List.getElem?_eq_getElem h0)
  rw [e] at e2
  cases e2
  exact Nat.lt_of_lt_of_le (World.block_lt_of_cell? w0 _ c0) hN
 ·rw [List.getElem?_eq_none (by omega)]
  simp only [Option.getD_none]
  have hq1 : (P.length : Int) ≤ (q : Int) := by omega
  clear hO hpc PA b0
  go_enter Tryz.func106, Tryz.ntmps106
  go_wp2_with fail
  have BB := hide (btr (below_alloc w (.cells #[.int .i64 0, .int .i64 0, .int .i64 0, .slice none 0 0, .bool false] 64)) (below_alloc _ (.cells #[.int .i64 (p : Int), .int .i64 (q : Int), .int .i64 xs] 199)))
  have Z3 := hide (heap_below (heap_new w (.cells #[.int .i64 0, .int .i64 0, .int .i64 0, .slice none 0 0, .bool false] 64)) (below_alloc _ (.cells #[.int .i64 (p : Int), .int .i64 (q : Int), .int .i64 xs] 199)))
  have V3 := hide (En.heap_new2 w (.cells #[.int .i64 0, .int .i64 0, .int .i64 0, .slice none 0 0, .bool false] 64) (.cells #[.int .i64 (p : Int), .int .i64 (q : Int), .int .i64 xs] 199))
  generalize (w.alloc (.cells #[.int .i64 0, .int .i64 0, .int .i64 0, .slice none 0 0, .bool false] 64)).alloc (.cells #[.int .i64 (p : Int), .int .i64 (q : Int), .int .i64 xs] 199) = W at *
  have v0 := cell_of V3.out 0
  have v1 := cell_of V3.out 1
  have c2 := Sh.cellB y2 BB.out
  have cp := Sh.cellB zp BB.out
  have r0 := cell_of Z3.out 0
  have r1 := cell_of Z3.out 1
  have r2 := cell_of Z3.out 2
  have r3 := cell_of Z3.out 3
  have r4 := cell_of Z3.out 4
  have f0 := frozen_of Z3.out 0
  have f1 := frozen_of Z3.out 1
  have f2 := frozen_of Z3.out 2
  have f3 := frozen_of Z3.out 3
  have f4 := frozen_of Z3.out 4
  simp at v0 v1 r0 r1 r2 r3 r4
  clear V3 x0 m0 m1 m2 y6 y2 zp hL hB hmb hpb
  go_wp2_with fail
  go_quiet (fail)
  go_wp2_with fail
  have BE := below5 (btr BB.out (bdrew W nq)) (Nat.le_refl _) (.int .i64 9) (.int .i64 0) (.int .i64 0) (.slice none 0 0) (.bool false)
  exact bodyPost_ret (En.results_row1 Tryz.results106 _ _ _ _ rfl (loadVar_op (set5 (heap_below Z3.out (bdrew W nq))) rfl)) rfl ⟨none, 0, rfl, (fun k x hk => by simp [exitO] at hk), (fun _ a e => by cases e), BE⟩
end Rlo
end Go.Proofs.YtblfimobiibmjaaGreat
namespace Go.Proofs.YtblfimobiibmjaaGreat
open Go.ChangeShapes Go.WideShapes Go.ChangeAt Go.RowKit
namespace Lo
open Ba
theorem kn_le {n : Nat} (h : n ≤ 200) : 2 * n * n + 2 * n ≤ 80400 := by
 have : n * n ≤ 200 * 200 := Nat.mul_le_mul h h
 have e : 2 * n * n = 2 * (n * n) := Nat.mul_assoc 2 n n
 omega
theorem Inv.n200 {sc : Sh.Sc} {n : Nat} {s : Lm} (h : Sh.schk sc = 0) (i : Inv sc n s) : n ≤ 200 := by
 have := i.le
 have := (schk_ok h).2.2.1
 omega
theorem Inv.ok {sc : Sh.Sc} {n : Nat} {s : Lm} (h : Sh.schk sc = 0) (i : Inv sc n s) : Ok (2 * n * n + 2 * n) s := by
 have hn := i.n200 h
 refine ⟨i.b.bw.cb, i.b.bw.tn, fun k st e => ?_, fun k st e b => ?_, ?_, i.d⟩
 ·have := i.b.sb k st e
  omega
 ·have := i.b.sb k st e
  unfold _root_.Go.Proofs.YtblfimobiibmjaaGreat.Pi.own
  split <;> omega
 ·have := i.b.md
  omega
end Lo
end Go.Proofs.YtblfimobiibmjaaGreat
namespace Go.Proofs.YtblfimobiibmjaaGreat
open Go.ChangeShapes Go.WideShapes Go.ChangeAt Go.RowKit
namespace Rlo
open Ba Lo
set_option maxRecDepth 100000 in
set_option maxHeartbeats 1600000 in
theorem rstep_over (L N : Nat) (col : Nat → Nat) (s : Lm) (w : World) (h : RW w col L N s) (hv : verd s ≠ 0) :
 Calls Tryz.prog 60 #[.pointer (some ⟨L, 0, none⟩)] w fun r w' => r = .returned (.bool false) ∧ Below w.heap.size w w' := by
 have VD := hide (rverdict_any L N col s w h)
 have hv' : (verd s != 0) = true := by simp [hv]
 generalize verd s = v at VD hv'
 clear h
 go_enter Tryz.func60, Tryz.ntmps60
 go_wp2_with fail
 refine VD.out.mono ?_
 rintro r w1 ⟨rfl, b1⟩
 have B1 := hide b1
 clear b1
 go_wp2_with fail
 go_ret
 exact ⟨rfl, B1.out⟩
theorem abl_len (l : List Mb) : ∀ j, (Cr.ablF j l).length ≤ l.length := by
 induction l with
 | nil => intro j; simp [Cr.ablF]
 | cons y l ih =>
   intro j
   unfold Cr.ablF
   have := ih (j + 1)
   split <;> simp <;> omega
end Rlo
end Go.Proofs.YtblfimobiibmjaaGreat
namespace Go.Proofs.YtblfimobiibmjaaGreat
open Go.ChangeShapes Go.WideShapes Go.ChangeAt Go.RowKit
open Go.Shelf
namespace Sh
open De Ba Re
end Sh
end Go.Proofs.YtblfimobiibmjaaGreat
namespace Go.Proofs.YtblfimobiibmjaaGreat
open Go.ChangeShapes Go.WideShapes Go.ChangeAt Go.RowKit
namespace Sh
open De Ba Re
end Sh
end Go.Proofs.YtblfimobiibmjaaGreat
namespace Go.Proofs.YtblfimobiibmjaaGreat
open Go.ChangeShapes Go.WideShapes Go.ChangeAt Go.RowKit
namespace Sh
open De Ba Re
end Sh
end Go.Proofs.YtblfimobiibmjaaGreat
namespace Go.Proofs.YtblfimobiibmjaaGreat
open Go.ChangeShapes Go.WideShapes Go.ChangeAt Go.RowKit
namespace Sh
open De Ba Re
end Sh
end Go.Proofs.YtblfimobiibmjaaGreat
namespace Go.Proofs.YtblfimobiibmjaaGreat
open Go.ChangeShapes Go.WideShapes Go.ChangeAt Go.RowKit
namespace Sh
open De Ba Re
end Sh
end Go.Proofs.YtblfimobiibmjaaGreat
namespace Go.Proofs.YtblfimobiibmjaaGreat
open Go.ChangeShapes Go.WideShapes Go.ChangeAt Go.RowKit
namespace Sh
open De Ba Re
end Sh
end Go.Proofs.YtblfimobiibmjaaGreat
namespace Go.Proofs.YtblfimobiibmjaaGreat
open Go.ChangeShapes Go.WideShapes Go.ChangeAt Go.RowKit
namespace Sh
open De Ba Re
end Sh
end Go.Proofs.YtblfimobiibmjaaGreat
namespace Go.Proofs.YtblfimobiibmjaaGreat
open Go.ChangeShapes Go.WideShapes Go.ChangeAt Go.RowKit
namespace Sh
open De Ba Re
end Sh
end Go.Proofs.YtblfimobiibmjaaGreat
namespace Go.Proofs.YtblfimobiibmjaaGreat
open Go.ChangeShapes Go.WideShapes Go.ChangeAt Go.RowKit
namespace Sh
open De Ba Re
end Sh
end Go.Proofs.YtblfimobiibmjaaGreat
namespace Go.Proofs.YtblfimobiibmjaaGreat
open Go.ChangeShapes Go.WideShapes Go.ChangeAt Go.RowKit
namespace Sh
open De Ba Re
end Sh
end Go.Proofs.YtblfimobiibmjaaGreat
namespace Go.Proofs.YtblfimobiibmjaaGreat
open Go.ChangeShapes Go.WideShapes Go.ChangeAt Go.RowKit
namespace Sh
open De Ba Re
end Sh
end Go.Proofs.YtblfimobiibmjaaGreat
namespace Go.Proofs.YtblfimobiibmjaaGreat
open Go.ChangeShapes Go.WideShapes Go.ChangeAt Go.RowKit
namespace Sh
open De Ba Re
end Sh
end Go.Proofs.YtblfimobiibmjaaGreat
namespace Go.Proofs.YtblfimobiibmjaaGreat
open Go.ChangeShapes Go.WideShapes Go.ChangeAt Go.RowKit
namespace Sh
open De Ba Re
end Sh
end Go.Proofs.YtblfimobiibmjaaGreat
namespace Go.Proofs.YtblfimobiibmjaaGreat
open Go.ChangeShapes Go.WideShapes Go.ChangeAt Go.RowKit
namespace Sh
open De Ba Re
end Sh
end Go.Proofs.YtblfimobiibmjaaGreat
namespace Go.Proofs.YtblfimobiibmjaaGreat
open Go.ChangeShapes Go.WideShapes Go.ChangeAt Go.RowKit
namespace Sh
open De Ba Re
end Sh
end Go.Proofs.YtblfimobiibmjaaGreat
