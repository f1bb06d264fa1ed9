/- The gauge's reader, over this seat's program: service (rule 4). -/
import Derived.Test.YtakbbhngcdccpaaGreatGub
namespace Go.Proofs.YtakbbhngcdccpaaGreat
open Go.ChangeShapes Go.WideShapes Go.ChangeAt Go.RowKit
namespace Gu
open En Ba

/-- an event is stored into R's record -/
def setEv (w : World) (R : Nat) (e : Ev) : World := ((((((((w.setCell ⟨R, 4, none⟩ (.int .i64 e.k)).setCell ⟨R, 5, none⟩ (.int .i64 e.g)).setCell ⟨R, 6, none⟩ (.int .i64 e.c)).setCell ⟨R, 7, none⟩ (.int .i64 e.a)).setCell ⟨R, 8, none⟩ (.int .i64 e.v)).setCell ⟨R, 9, none⟩ (.int .i64 e.m)).setCell ⟨R, 10, none⟩ (.bool e.s)).setCell ⟨R, 11, none⟩ (.bool e.o))
theorem setEv_heap {w : World} {R : Nat} {a0 a1 a2 a3 b0 b1 b2 b3 b4 b5 b6 b7 : Value} {T : TypeId} (h : w.heap[R]? = some (.cells #[a0, a1, a2, a3, b0, b1, b2, b3, b4, b5, b6, b7] T (0, 0))) (e : Ev) : (setEv w R e).heap[R]? = some (.cells #[a0, a1, a2, a3, .int .i64 e.k, .int .i64 e.g, .int .i64 e.c, .int .i64 e.a, .int .i64 e.v, .int .i64 e.m, .bool e.s, .bool e.o] T (0, 0)) := by
  unfold setEv
  have h0 := Ba.heap_setCell_same (i := 4) h (.int .i64 e.k)
  have h1 := Ba.heap_setCell_same (i := 5) h0 (.int .i64 e.g)
  have h2 := Ba.heap_setCell_same (i := 6) h1 (.int .i64 e.c)
  have h3 := Ba.heap_setCell_same (i := 7) h2 (.int .i64 e.a)
  have h4 := Ba.heap_setCell_same (i := 8) h3 (.int .i64 e.v)
  have h5 := Ba.heap_setCell_same (i := 9) h4 (.int .i64 e.m)
  have h6 := Ba.heap_setCell_same (i := 10) h5 (.bool e.s)
  have h7 := Ba.heap_setCell_same (i := 11) h6 (.bool e.o)
  rw [h7]
  simp
theorem setEv_kb (w : World) (R : Nat) (e : Ev) : KB R w (setEv w R e) := by
  unfold setEv
  have h0 := (KB.refl R w).setCell 4 (.int .i64 e.k)
  have h1 := h0.setCell 5 (.int .i64 e.g)
  have h2 := h1.setCell 6 (.int .i64 e.c)
  have h3 := h2.setCell 7 (.int .i64 e.a)
  have h4 := h3.setCell 8 (.int .i64 e.v)
  have h5 := h4.setCell 9 (.int .i64 e.m)
  have h6 := h5.setCell 10 (.bool e.s)
  exact h6.setCell 11 (.bool e.o)
theorem kb_below {w0 w w' : World} {N R : Nat} (h : Below N w0 w) (k : KB R w w') (hR : N ≤ R) (hN : N ≤ w0.heap.size) : Below N w0 w' :=
  ⟨k.os.trans h.os, k.tape.trans h.tape, k.output.trans h.output, Nat.le_trans h.size k.size, fun x hx => (k.block x (by have := h.size; omega) (by omega)).trans (h.block x hx)⟩
theorem cellB3 {w w' : World} {a : Addr} {v : Value} (h : w.drew.cell? a = some v) (b : Below w.heap.size w w') : w'.drew.cell? a = some v := (b.cell (World.block_lt_of_cell? w _ h)).trans h
/-- behind rule 4 -/
def SeP (R4 : Option Ev) (N R : Nat) (ev : Value) (s : Gs) (w : World) (r : Ending) (w' : World) : Prop := ((R4 = none ∧ r = .returned (.bool false)) ∨ ∃ la, R4 = some la ∧ r = .returned (.bool true) ∧ GW w' N R ev { s with la := la }) ∧ Fb N w w'
theorem SeP.no {R4 : Option Ev} {N R : Nat} {ev : Value} {s : Gs} {w w' : World} (h : R4 = none) (b : Fb N w w') : SeP R4 N R ev s w (.returned (.bool false)) w' := ⟨.inl ⟨h, rfl⟩, b⟩
theorem SeP.yes {R4 : Option Ev} {N R mb : Nat} {ev vs : Value} {D : DataW Unit} {cs : List Sv} {s : Gs} {w w' : World} {la : Ev} (h : R4 = some la) (g : GR w' N R mb ev vs D cs { s with la := la }) (b : Fb N w w') : SeP R4 N R ev s w (.returned (.bool true)) w' := ⟨.inr ⟨la, h, rfl, mb, vs, D, cs, g⟩, b⟩
set_option maxRecDepth 100000 in
set_option maxHeartbeats 6400000 in
theorem serv_any {w : World} {N R c : Nat} {oa : Option Addr} {l : List Ev} {s : Gs} (h : GW w N R (.slice oa l.length c) s) (hA : EsAt w oa l) {i : Nat} {e : Ev} (hi : l[i]? = some e) (hNw : N ≤ w.heap.size) :
    Calls Tryz.prog 52 #[.pointer (some ⟨R, 0, none⟩), .int .i64 (i : Int)] w fun r w' => SeP (r4 s.la e) N R (.slice oa l.length c) s w r w' := by
  obtain ⟨mb, vs, D, cs, h⟩ := h
  have hil : i < l.length := (List.getElem?_eq_some_iff.1 hi).1
  obtain ⟨b1, o1, rfl, -⟩ := hA i e hi
  have hA' := hA.below (bdrew1 w)
  obtain ⟨p0, p1, p2, p3, p4, p5, p6, p7⟩ := hA'.read hi
  have hiM : (i : Int) < (l.length : Int) := by omega
  have H0 := hide h
  have hRd : w.drew.heap[R]? = _ := h.hR
  have d4 : w.drew.cell? ⟨R, 4, none⟩ = some (.int .i64 s.la.k) := cell_of hRd 4
  have d5 : w.drew.cell? ⟨R, 5, none⟩ = some (.int .i64 s.la.g) := cell_of hRd 5
  have d6 : w.drew.cell? ⟨R, 6, none⟩ = some (.int .i64 s.la.c) := cell_of hRd 6
  have d7 : w.drew.cell? ⟨R, 7, none⟩ = some (.int .i64 s.la.a) := cell_of hRd 7
  have d8 : w.drew.cell? ⟨R, 8, none⟩ = some (.int .i64 s.la.v) := cell_of hRd 8
  have d9 : w.drew.cell? ⟨R, 9, none⟩ = some (.int .i64 s.la.m) := cell_of hRd 9
  have d10 : w.drew.cell? ⟨R, 10, none⟩ = some (.bool s.la.s) := cell_of hRd 10
  have d11 : w.drew.cell? ⟨R, 11, none⟩ = some (.bool s.la.o) := cell_of hRd 11
  have d0 : w.drew.cell? ⟨R, 0, none⟩ = some (.slice (some ⟨b1, o1, none⟩) l.length c) := cell_of hRd 0
  have nR0 : R ≠ w.heap.size := by have := heap_lt h.hR; omega
  have nR1 : R ≠ w.heap.size + 1 := by have := heap_lt h.hR; omega
  have nb0 : b1 ≠ w.heap.size := by have := World.block_lt_of_cell? w _ p0; simp only at this; omega
  have nb1 : b1 ≠ w.heap.size + 1 := by have := World.block_lt_of_cell? w _ p0; simp only at this; omega
  clear hA hA' hi hRd
  generalize l.length = M at *
  obtain ⟨R4, hR4⟩ : ∃ R4, r4 s.la e = R4 := ⟨_, rfl⟩
  rw [hR4]
  unfold r4 at hR4
  clear h
  go_enter Tryz.func52, Tryz.ntmps52
  go_upto_region 1 with fail
  have KEEP : ∀ o, (w.alloc o).drew.cell? ⟨R, 4, none⟩ = some (.int .i64 s.la.k) ∧ (w.alloc o).drew.cell? ⟨R, 5, none⟩ = some (.int .i64 s.la.g) ∧ (w.alloc o).drew.cell? ⟨R, 6, none⟩ = some (.int .i64 s.la.c) ∧ (w.alloc o).drew.cell? ⟨R, 7, none⟩ = some (.int .i64 s.la.a) ∧ (w.alloc o).drew.cell? ⟨R, 8, none⟩ = some (.int .i64 s.la.v) ∧ (w.alloc o).drew.cell? ⟨R, 9, none⟩ = some (.int .i64 s.la.m) ∧ (w.alloc o).drew.cell? ⟨R, 10, none⟩ = some (.bool s.la.s) ∧ (w.alloc o).drew.cell? ⟨R, 11, none⟩ = some (.bool s.la.o) ∧ (w.alloc o).drew.cell? ⟨R, 0, none⟩ = some (.slice (some ⟨b1, o1, none⟩) M c) ∧ (w.alloc o).drew.cell? ⟨b1, o1 + i * 8, none⟩ = some (.int .i64 e.k) ∧ (w.alloc o).drew.cell? ⟨b1, o1 + i * 8 + 1, none⟩ = some (.int .i64 e.g) ∧ (w.alloc o).drew.cell? ⟨b1, o1 + i * 8 + 2, none⟩ = some (.int .i64 e.c) ∧ (w.alloc o).drew.cell? ⟨b1, o1 + i * 8 + 3, none⟩ = some (.int .i64 e.a) ∧ (w.alloc o).drew.cell? ⟨b1, o1 + i * 8 + 4, none⟩ = some (.int .i64 e.v) ∧ (w.alloc o).drew.cell? ⟨b1, o1 + i * 8 + 5, none⟩ = some (.int .i64 e.m) ∧ (w.alloc o).drew.cell? ⟨b1, o1 + i * 8 + 6, none⟩ = some (.bool e.s) ∧ (w.alloc o).drew.cell? ⟨b1, o1 + i * 8 + 7, none⟩ = some (.bool e.o) := fun o => by
    refine ⟨?_, ?_, ?_, ?_, ?_, ?_, ?_, ?_, ?_, ?_, ?_, ?_, ?_, ?_, ?_, ?_, ?_⟩ <;> (refine cellB3 ?_ (below_alloc w o); assumption)
  have KEEP2 : ∀ o o', ((w.alloc o).alloc o').drew.cell? ⟨R, 4, none⟩ = some (.int .i64 s.la.k) ∧ ((w.alloc o).alloc o').drew.cell? ⟨R, 5, none⟩ = some (.int .i64 s.la.g) ∧ ((w.alloc o).alloc o').drew.cell? ⟨R, 6, none⟩ = some (.int .i64 s.la.c) ∧ ((w.alloc o).alloc o').drew.cell? ⟨R, 7, none⟩ = some (.int .i64 s.la.a) ∧ ((w.alloc o).alloc o').drew.cell? ⟨R, 8, none⟩ = some (.int .i64 s.la.v) ∧ ((w.alloc o).alloc o').drew.cell? ⟨R, 9, none⟩ = some (.int .i64 s.la.m) ∧ ((w.alloc o).alloc o').drew.cell? ⟨R, 10, none⟩ = some (.bool s.la.s) ∧ ((w.alloc o).alloc o').drew.cell? ⟨R, 11, none⟩ = some (.bool s.la.o) ∧ ((w.alloc o).alloc o').drew.cell? ⟨R, 0, none⟩ = some (.slice (some ⟨b1, o1, none⟩) M c) ∧ ((w.alloc o).alloc o').drew.cell? ⟨b1, o1 + i * 8, none⟩ = some (.int .i64 e.k) ∧ ((w.alloc o).alloc o').drew.cell? ⟨b1, o1 + i * 8 + 1, none⟩ = some (.int .i64 e.g) ∧ ((w.alloc o).alloc o').drew.cell? ⟨b1, o1 + i * 8 + 2, none⟩ = some (.int .i64 e.c) ∧ ((w.alloc o).alloc o').drew.cell? ⟨b1, o1 + i * 8 + 3, none⟩ = some (.int .i64 e.a) ∧ ((w.alloc o).alloc o').drew.cell? ⟨b1, o1 + i * 8 + 4, none⟩ = some (.int .i64 e.v) ∧ ((w.alloc o).alloc o').drew.cell? ⟨b1, o1 + i * 8 + 5, none⟩ = some (.int .i64 e.m) ∧ ((w.alloc o).alloc o').drew.cell? ⟨b1, o1 + i * 8 + 6, none⟩ = some (.bool e.s) ∧ ((w.alloc o).alloc o').drew.cell? ⟨b1, o1 + i * 8 + 7, none⟩ = some (.bool e.o) := fun o o' => by
    refine ⟨?_, ?_, ?_, ?_, ?_, ?_, ?_, ?_, ?_, ?_, ?_, ?_, ?_, ?_, ?_, ?_, ?_⟩ <;> (refine cellB3 ?_ (btr (below_alloc w o) (below_alloc _ o')); assumption)
  go_cut [5, 6] (fun s5 s6 wc => ∃ A B, s5 = .pointer (some ⟨A, 0, none⟩) ∧ s6 = .pointer (some ⟨B, 0, none⟩) ∧ wc.heap[A]? = some (.cells #[.int .i64 e.k, .int .i64 e.g, .int .i64 e.c, .int .i64 e.a, .int .i64 e.v, .int .i64 e.m, .bool e.s, .bool e.o] 23) ∧ wc.heap[B]? = some (.cells #[.int .i64 s.la.k, .int .i64 s.la.g, .int .i64 s.la.c, .int .i64 s.la.a, .int .i64 s.la.v, .int .i64 s.la.m, .bool s.la.s, .bool s.la.o] 23) ∧ Below w.heap.size w wc)
  case first =>
    go_region_held3 (fun w' => w'.cell? ⟨R, 4, none⟩ = some (.int .i64 s.la.k) ∧ w'.cell? ⟨R, 5, none⟩ = some (.int .i64 s.la.g) ∧ w'.cell? ⟨R, 6, none⟩ = some (.int .i64 s.la.c) ∧ w'.cell? ⟨R, 7, none⟩ = some (.int .i64 s.la.a) ∧ w'.cell? ⟨R, 8, none⟩ = some (.int .i64 s.la.v) ∧ w'.cell? ⟨R, 9, none⟩ = some (.int .i64 s.la.m) ∧ w'.cell? ⟨R, 10, none⟩ = some (.bool s.la.s) ∧ w'.cell? ⟨R, 11, none⟩ = some (.bool s.la.o) ∧ w'.cell? ⟨R, 0, none⟩ = some (.slice (some ⟨b1, o1, none⟩) M c) ∧ w'.cell? ⟨b1, o1 + i * 8, none⟩ = some (.int .i64 e.k) ∧ w'.cell? ⟨b1, o1 + i * 8 + 1, none⟩ = some (.int .i64 e.g) ∧ w'.cell? ⟨b1, o1 + i * 8 + 2, none⟩ = some (.int .i64 e.c) ∧ w'.cell? ⟨b1, o1 + i * 8 + 3, none⟩ = some (.int .i64 e.a) ∧ w'.cell? ⟨b1, o1 + i * 8 + 4, none⟩ = some (.int .i64 e.v) ∧ w'.cell? ⟨b1, o1 + i * 8 + 5, none⟩ = some (.int .i64 e.m) ∧ w'.cell? ⟨b1, o1 + i * 8 + 6, none⟩ = some (.bool e.s) ∧ w'.cell? ⟨b1, o1 + i * 8 + 7, none⟩ = some (.bool e.o))
      (first | exact KEEP _ | exact KEEP2 _ _ | (go_keep; done))
      (fail)
    all_goals
      go_wp2_with fail
      go_meet
      case rel =>
        first
          | exact ⟨w.heap.size, w.heap.size + 1, rfl, rfl, heap_below (heap_new w (.cells #[.int .i64 e.k, .int .i64 e.g, .int .i64 e.c, .int .i64 e.a, .int .i64 e.v, .int .i64 e.m, .bool e.s, .bool e.o] 23)) (btr (below_alloc _ (.cells #[.int .i64 s.la.k, .int .i64 s.la.g, .int .i64 s.la.c, .int .i64 s.la.a, .int .i64 s.la.v, .int .i64 s.la.m, .bool s.la.s, .bool s.la.o] 23)) (bdrew1 _)), (by have := heap_new (w.alloc (.cells #[.int .i64 e.k, .int .i64 e.g, .int .i64 e.c, .int .i64 e.a, .int .i64 e.v, .int .i64 e.m, .bool e.s, .bool e.o] 23)) (.cells #[.int .i64 s.la.k, .int .i64 s.la.g, .int .i64 s.la.c, .int .i64 s.la.a, .int .i64 s.la.v, .int .i64 s.la.m, .bool s.la.s, .bool s.la.o] 23); rw [World.size_alloc] at this; exact heap_below this (bdrew1 _)), btr (btr (below_alloc _ _) (below_alloc _ _)) (bdrew1 _)⟩
          | exact ⟨w.heap.size + 1, w.heap.size, rfl, rfl, (by have := heap_new (w.alloc (.cells #[.int .i64 s.la.k, .int .i64 s.la.g, .int .i64 s.la.c, .int .i64 s.la.a, .int .i64 s.la.v, .int .i64 s.la.m, .bool s.la.s, .bool s.la.o] 23)) (.cells #[.int .i64 e.k, .int .i64 e.g, .int .i64 e.c, .int .i64 e.a, .int .i64 e.v, .int .i64 e.m, .bool e.s, .bool e.o] 23); rw [World.size_alloc] at this; exact heap_below this (bdrew1 _)), heap_below (heap_new w (.cells #[.int .i64 s.la.k, .int .i64 s.la.g, .int .i64 s.la.c, .int .i64 s.la.a, .int .i64 s.la.v, .int .i64 s.la.m, .bool s.la.s, .bool s.la.o] 23)) (btr (below_alloc _ (.cells #[.int .i64 e.k, .int .i64 e.g, .int .i64 e.c, .int .i64 e.a, .int .i64 e.v, .int .i64 e.m, .bool e.s, .bool e.o] 23)) (bdrew1 _)), btr (btr (below_alloc _ _) (below_alloc _ _)) (bdrew1 _)⟩
  case rest =>
  obtain ⟨A, B, rfl, rfl, ea, eb, bl⟩ := hcut
  have EA := hide ea
  have EB := hide eb
  have H2 := hide (H0.out.below bl)
  have B2 := hide (Fb.of bl hNw)
  have nAR : A ≠ R := fun q => by rw [q, H2.out.hR] at ea; cases ea
  have nBR : B ≠ R := fun q => by rw [q, H2.out.hR] at eb; cases eb
  clear p0 p1 p2 p3 p4 p5 p6 p7 d0 d4 d5 d6 d7 d8 d9 d10 d11 ea eb bl H0
  rename World => W2
  have c4 : W2.cell? ⟨R, 4, none⟩ = some (.int .i64 s.la.k) := cell_of H2.out.hR 4
  have z4 := frozen_of H2.out.hR 4
  have c5 : W2.cell? ⟨R, 5, none⟩ = some (.int .i64 s.la.g) := cell_of H2.out.hR 5
  have z5 := frozen_of H2.out.hR 5
  have c6 : W2.cell? ⟨R, 6, none⟩ = some (.int .i64 s.la.c) := cell_of H2.out.hR 6
  have z6 := frozen_of H2.out.hR 6
  have c7 : W2.cell? ⟨R, 7, none⟩ = some (.int .i64 s.la.a) := cell_of H2.out.hR 7
  have z7 := frozen_of H2.out.hR 7
  have c8 : W2.cell? ⟨R, 8, none⟩ = some (.int .i64 s.la.v) := cell_of H2.out.hR 8
  have z8 := frozen_of H2.out.hR 8
  have c9 : W2.cell? ⟨R, 9, none⟩ = some (.int .i64 s.la.m) := cell_of H2.out.hR 9
  have z9 := frozen_of H2.out.hR 9
  have c10 : W2.cell? ⟨R, 10, none⟩ = some (.bool s.la.s) := cell_of H2.out.hR 10
  have z10 := frozen_of H2.out.hR 10
  have c11 : W2.cell? ⟨R, 11, none⟩ = some (.bool s.la.o) := cell_of H2.out.hR 11
  have z11 := frozen_of H2.out.hR 11
  have a0 : W2.cell? ⟨A, 0, none⟩ = some (.int .i64 e.k) := cell_of EA.out 0
  have a1 : W2.cell? ⟨A, 1, none⟩ = some (.int .i64 e.g) := cell_of EA.out 1
  have a2 : W2.cell? ⟨A, 2, none⟩ = some (.int .i64 e.c) := cell_of EA.out 2
  have a3 : W2.cell? ⟨A, 3, none⟩ = some (.int .i64 e.a) := cell_of EA.out 3
  have a4 : W2.cell? ⟨A, 4, none⟩ = some (.int .i64 e.v) := cell_of EA.out 4
  have a5 : W2.cell? ⟨A, 5, none⟩ = some (.int .i64 e.m) := cell_of EA.out 5
  have a6 : W2.cell? ⟨A, 6, none⟩ = some (.bool e.s) := cell_of EA.out 6
  have a7 : W2.cell? ⟨A, 7, none⟩ = some (.bool e.o) := cell_of EA.out 7
  have lb0 : W2.cell? ⟨B, 0, none⟩ = some (.int .i64 s.la.k) := cell_of EB.out 0
  have lb1 : W2.cell? ⟨B, 1, none⟩ = some (.int .i64 s.la.g) := cell_of EB.out 1
  have lb2 : W2.cell? ⟨B, 2, none⟩ = some (.int .i64 s.la.c) := cell_of EB.out 2
  have lb3 : W2.cell? ⟨B, 3, none⟩ = some (.int .i64 s.la.a) := cell_of EB.out 3
  have lb4 : W2.cell? ⟨B, 4, none⟩ = some (.int .i64 s.la.v) := cell_of EB.out 4
  have lb5 : W2.cell? ⟨B, 5, none⟩ = some (.int .i64 s.la.m) := cell_of EB.out 5
  have lb6 : W2.cell? ⟨B, 6, none⟩ = some (.bool s.la.s) := cell_of EB.out 6
  have lb7 : W2.cell? ⟨B, 7, none⟩ = some (.bool s.la.o) := cell_of EB.out 7
  have OW := hide (owed_any ⟨mb, vs, D, cs, H2.out⟩)
  have SETL : Hid (GR (setEv W2 R e) N R mb (.slice (some ⟨b1, o1, none⟩) M c) vs D cs { s with la := e }) := H2.out.setR (setEv_kb W2 R e) (s' := { s with la := e }) (setEv_heap H2.out.hR e) rfl rfl rfl
  have KK := hide (setEv_kb W2 R e)
  have SETB := hide (B2.out.kb KK.out H2.out.hN.1 hNw H2.out.hR (by decide))
  unfold setEv at SETL KK SETB
  obtain ⟨ow, how⟩ : ∃ ow, owed s.la = ow := ⟨_, rfl⟩
  rw [how] at OW hR4
  clear how
  go_wp2_with fail
  refine OW.out.mono ?_
  rintro r w3 ⟨rfl, e3⟩
  obtain rfl := e3.symm
  clear e3
  cases ow
  · rw [if_neg (by simp)] at hR4
    by_cases h7 : e.k = 7
    case neg =>
      rw [if_pos h7] at hR4
      have d7 : (e.k != 7) = true := by simp [h7]
      clear h7
      go_wp2_with fail
      go_ret
      exact SeP.yes hR4.symm SETL.out SETB.out
    rw [if_neg (by simp [h7])] at hR4
    have d7 : (e.k != 7) = false := by simp [h7]
    clear h7 SETL SETB KK
    have hcp : closeP s.la e = ((s.la.k == 5) && (e.m == s.la.g) && (e.c == s.la.c) && !e.s && !e.o) := by
      unfold closeP
      rw [show decide (s.la.k = 5) = (s.la.k == 5) from by rw [Bool.eq_iff_iff]; simp, show decide (e.m = s.la.g) = (e.m == s.la.g) from by rw [Bool.eq_iff_iff]; simp, show decide (e.c = s.la.c) = (e.c == s.la.c) from by rw [Bool.eq_iff_iff]; simp]
    rw [hcp] at hR4
    clear hcp
    have YES : Hid (GR W2 N R mb (.slice (some ⟨b1, o1, none⟩) M c) vs D cs { s with la := s.la }) := H2.out
    cases q1 : (s.la.k == 5)
    · rw [q1] at hR4
      simp only [Bool.false_and, Bool.false_eq_true, if_false] at hR4
      go_wp2_with fail
      go_ret
      exact SeP.no hR4.symm B2.out
    cases q2 : (e.m == s.la.g)
    · rw [q1, q2] at hR4
      simp only [Bool.and_false, Bool.false_and, Bool.false_eq_true, if_false] at hR4
      go_wp2_with fail
      go_ret
      exact SeP.no hR4.symm B2.out
    cases q3 : (e.c == s.la.c)
    · rw [q1, q2, q3] at hR4
      simp only [Bool.and_false, Bool.false_and, Bool.false_eq_true, if_false] at hR4
      go_wp2_with fail
      go_ret
      exact SeP.no hR4.symm B2.out
    cases q4 : e.s
    · rw [q4] at a6 hR4
      cases q5 : e.o
      · rw [q1, q2, q3, q5] at hR4
        rw [q5] at a7
        simp only [Bool.and_self, Bool.not_false, if_true] at hR4
        go_wp2_with fail
        go_ret
        exact SeP.yes hR4.symm YES.out B2.out
      · rw [q1, q2, q3, q5] at hR4
        rw [q5] at a7
        simp only [Bool.and_false, Bool.not_true, Bool.false_eq_true, if_false] at hR4
        go_wp2_with fail
        go_ret
        exact SeP.no hR4.symm B2.out
    · rw [q1, q2, q3, q4] at hR4
      rw [q4] at a6
      simp only [Bool.and_false, Bool.not_true, Bool.false_and, Bool.false_eq_true, if_false] at hR4
      go_wp2_with fail
      go_ret
      exact SeP.no hR4.symm B2.out
  · rw [if_pos rfl] at hR4
    have PS := hide (fun u => pserves_any s.la e u)
    unfold evv evc at PS
    obtain ⟨sp, hsp⟩ : ∃ sp, servP s.la e = sp := ⟨_, rfl⟩
    rw [hsp] at PS hR4
    clear hsp
    go_upto_region 4 with fail
    have EA3 := hide (KK.out.heap EA.out nAR)
    have EB3 := hide (KK.out.heap EB.out nBR)
    clear c4 z4 a0 lb0 c5 z5 a1 lb1 c6 z6 a2 lb2 c7 z7 a3 lb3 c8 z8 a4 lb4 c9 z9 a5 lb5 c10 z10 a6 lb6 c11 z11 a7 lb7 KK
    generalize ((((((((W2.setCell ⟨R, 4, none⟩ (.int .i64 e.k)).setCell ⟨R, 5, none⟩ (.int .i64 e.g)).setCell ⟨R, 6, none⟩ (.int .i64 e.c)).setCell ⟨R, 7, none⟩ (.int .i64 e.a)).setCell ⟨R, 8, none⟩ (.int .i64 e.v)).setCell ⟨R, 9, none⟩ (.int .i64 e.m)).setCell ⟨R, 10, none⟩ (.bool e.s)).setCell ⟨R, 11, none⟩ (.bool e.o)) = W3 at *
    have a0 : W3.cell? ⟨A, 0, none⟩ = some (.int .i64 e.k) := cell_of EA3.out 0
    have lb0 : W3.cell? ⟨B, 0, none⟩ = some (.int .i64 s.la.k) := cell_of EB3.out 0
    have a1 : W3.cell? ⟨A, 1, none⟩ = some (.int .i64 e.g) := cell_of EA3.out 1
    have lb1 : W3.cell? ⟨B, 1, none⟩ = some (.int .i64 s.la.g) := cell_of EB3.out 1
    have a2 : W3.cell? ⟨A, 2, none⟩ = some (.int .i64 e.c) := cell_of EA3.out 2
    have lb2 : W3.cell? ⟨B, 2, none⟩ = some (.int .i64 s.la.c) := cell_of EB3.out 2
    have a3 : W3.cell? ⟨A, 3, none⟩ = some (.int .i64 e.a) := cell_of EA3.out 3
    have lb3 : W3.cell? ⟨B, 3, none⟩ = some (.int .i64 s.la.a) := cell_of EB3.out 3
    have a4 : W3.cell? ⟨A, 4, none⟩ = some (.int .i64 e.v) := cell_of EA3.out 4
    have lb4 : W3.cell? ⟨B, 4, none⟩ = some (.int .i64 s.la.v) := cell_of EB3.out 4
    have a5 : W3.cell? ⟨A, 5, none⟩ = some (.int .i64 e.m) := cell_of EA3.out 5
    have lb5 : W3.cell? ⟨B, 5, none⟩ = some (.int .i64 s.la.m) := cell_of EB3.out 5
    have a6 : W3.cell? ⟨A, 6, none⟩ = some (.bool e.s) := cell_of EA3.out 6
    have lb6 : W3.cell? ⟨B, 6, none⟩ = some (.bool s.la.s) := cell_of EB3.out 6
    have a7 : W3.cell? ⟨A, 7, none⟩ = some (.bool e.o) := cell_of EA3.out 7
    have lb7 : W3.cell? ⟨B, 7, none⟩ = some (.bool s.la.o) := cell_of EB3.out 7
    go_wp2_with fail
    refine (PS.out _).mono ?_
    rintro r w4 ⟨rfl, b4⟩
    have G4 := hide (SETL.out.below b4)
    have B4 := hide (SETB.out.trans (Fb.of b4 (by have := SETB.out.size; omega)))
    clear b4
    cases sp
    · rw [if_neg (by simp)] at hR4
      go_wp2_with fail
      go_ret
      exact SeP.no hR4.symm B4.out
    · rw [if_pos rfl] at hR4
      go_wp2_with fail
      go_ret
      exact SeP.yes hR4.symm G4.out B4.out
end Gu
end Go.Proofs.YtakbbhngcdccpaaGreat
