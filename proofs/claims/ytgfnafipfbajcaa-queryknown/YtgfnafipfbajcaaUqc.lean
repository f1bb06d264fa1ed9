/- The law's ref(), walked. -/
import Derived.Test.YtgfnafipfbajcaaUqb
import Derived.Maps.AppendAt
namespace Go.Proofs.Ytgfnafipfbajcaa
open Go.ChangeShapes Go.WideShapes Go.ChangeAt Go.RowKit
namespace Qu
open Ba Rk
open Ep (tidOf clkOf ownB rdN rdT rdt rdc rdk)

theorem info_ts : (Try.prog.info? 66).map (fun i => (i.zero, i.size, i.bytes)) = some (some (.agg #[.int .i64 0, .int .i64 0, .slice none 0 0]), 3, 40) := by kernel_rfl
theorem qinfo_rr : (Try.prog.info? 73).map (fun i => (i.zero, i.size, i.bytes)) = some (some (rv zr), 6, 48) := by kernel_rfl
theorem qinfo_p {t : TypeId} {z : Value} {n b : Nat} (h : (Try.prog.info? t).map (fun i => (i.zero, i.size, i.bytes)) = some (some z, n, b)) : ∃ i0, Try.prog.info? t = some i0 ∧ i0.zero = some z ∧ i0.size = n ∧ i0.bytes = b := by
  cases hi : Try.prog.info? t with
  | none => rw [hi] at h; cases h
  | some i0 =>
    rw [hi] at h
    simp at h
    exact ⟨i0, rfl, h.1, h.2.1, h.2.2⟩
theorem qown_sl {w : World} {base sz : Nat} {e : TypeId} {v : Value} {n : Nat} {xs : List Value} (h : w.ownsRow base e sz v n xs) : ∃ oa c, v = .slice oa n c := by
  rcases h.2 with ⟨rfl, rfl⟩ | ⟨g, cap, cr, rfl, -⟩
  · exact ⟨none, 0, rfl⟩
  · exact ⟨_, _, rfl⟩
/-- a stamp more -/
theorem LP.putS {w a b : World} {oe os od : Option Addr} {le ce ls cs ld cd : Nat} {v v' : Value} {n n' : Nat} {xs xs' : List Value} {u : Value} {m : Nat} {ys : List Value} (h : LP w a oe os od le ce ls cs ld cd v n xs u m ys) (ho : b.ownsRow w.heap.size 66 3 v' n' xs') (g : a.grownBy b v.ownBlock) : LP w (b.setCell ⟨w.heap.size + 2, 1, none⟩ v') oe os od le ce ls cs ld cd v' n' xs' u m ys := by
  have nv : ∀ (k : Nat) (t : TypeId) (c : Array Value) (fr : Nat × Nat), a.heap[k]? = some (.cells c t fr) → t ≠ 66 → b.heap[k]? = some (.cells c t fr) := fun k t c fr hk ht => (g.block k (heap_lt hk) (fun e => by
    exact (own_ty h.ov hk ht) (by rw [e]))).trans hk
  have K := (KB.refl (w.heap.size + 2) b).setCell 1 v'
  have h3 := nv _ _ _ _ h.h3 (by decide)
  have ou : b.ownsRow w.heap.size 73 6 u m ys := Rk.own_keep h.ou fun k hk => by
    obtain ⟨_, cur, q⟩ := Rk.own_blk h.ou k hk
    rw [q]
    exact nv _ _ _ _ q (by decide)
  refine ⟨K.heap (nv _ _ _ _ h.h1 (by decide)) (by omega), K.heap (nv _ _ _ _ h.h2 (by decide)) (by omega), (Ba.heap_setCell_same h3 _).trans rfl, Rk.own_keep ho fun k hk => ?_, Rk.own_keep ou fun k hk => ?_, ?_⟩
  · obtain ⟨_, cur, q⟩ := Rk.own_blk ho k hk
    exact K.block k (heap_lt q) fun e => by rw [e, h3] at q; cases q
  · obtain ⟨_, cur, q⟩ := Rk.own_blk ou k hk
    exact K.block k (heap_lt q) fun e => by rw [e, h3] at q; cases q
  · have bb : Below w.heap.size w b := ⟨g.os.trans h.b.os, g.tape.trans h.b.tape, g.output.trans h.b.output, Nat.le_trans h.b.size g.size, fun k hk => (g.block k (Nat.lt_of_lt_of_le hk h.b.size) (fun e => by
      obtain ⟨q, -⟩ := Rk.own_blk h.ov k e.symm
      omega)).trans (h.b.block k hk)⟩
    exact bb.setCell (by show w.heap.size ≤ w.heap.size + 2; omega) _
/-- a record more -/
theorem LP.putR {w a b : World} {oe os od : Option Addr} {le ce ls cs ld cd : Nat} {v : Value} {n : Nat} {xs : List Value} {u u' : Value} {m m' : Nat} {ys ys' : List Value} (h : LP w a oe os od le ce ls cs ld cd v n xs u m ys) (ho : b.ownsRow w.heap.size 73 6 u' m' ys') (g : a.grownBy b u.ownBlock) : LP w (b.setCell ⟨w.heap.size + 2, 2, none⟩ u') oe os od le ce ls cs ld cd v n xs u' m' ys' := by
  have nv : ∀ (k : Nat) (t : TypeId) (c : Array Value) (fr : Nat × Nat), a.heap[k]? = some (.cells c t fr) → t ≠ 73 → b.heap[k]? = some (.cells c t fr) := fun k t c fr hk ht => (g.block k (heap_lt hk) (fun e => by
    exact (own_ty h.ou hk ht) (by rw [e]))).trans hk
  have K := (KB.refl (w.heap.size + 2) b).setCell 2 u'
  have h3 := nv _ _ _ _ h.h3 (by decide)
  have ov : b.ownsRow w.heap.size 66 3 v n xs := Rk.own_keep h.ov fun k hk => by
    obtain ⟨_, cur, q⟩ := Rk.own_blk h.ov k hk
    rw [q]
    exact nv _ _ _ _ q (by decide)
  refine ⟨K.heap (nv _ _ _ _ h.h1 (by decide)) (by omega), K.heap (nv _ _ _ _ h.h2 (by decide)) (by omega), (Ba.heap_setCell_same h3 _).trans rfl, Rk.own_keep ov fun k hk => ?_, Rk.own_keep ho fun k hk => ?_, ?_⟩
  · obtain ⟨_, cur, q⟩ := Rk.own_blk ov k hk
    exact K.block k (heap_lt q) fun e => by rw [e, h3] at q; cases q
  · obtain ⟨_, cur, q⟩ := Rk.own_blk ho k hk
    exact K.block k (heap_lt q) fun e => by rw [e, h3] at q; cases q
  · have bb : Below w.heap.size w b := ⟨g.os.trans h.b.os, g.tape.trans h.b.tape, g.output.trans h.b.output, Nat.le_trans h.b.size g.size, fun k hk => (g.block k (Nat.lt_of_lt_of_le hk h.b.size) (fun e => by
      obtain ⟨q, -⟩ := Rk.own_blk h.ou k e.symm
      omega)).trans (h.b.block k hk)⟩
    exact bb.setCell (by show w.heap.size ≤ w.heap.size + 2; omega) _
theorem own_ro {w : World} {base : Nat} {e : TypeId} {v : Value} {l : List Rd} (h : w.ownsRow base e 6 v l.length (rc l)) : ∃ oa c, v = .slice oa l.length c ∧ RO w oa l := by
  rcases h.2 with ⟨rfl, h0⟩ | ⟨g, cap, cur, rfl, _, hg, hc, hm, hcs, htk⟩
  · refine ⟨none, 0, by rw [h0], ?_⟩
    obtain rfl := List.eq_nil_of_length_eq_zero h0
    exact GAt.nil _ _ _ _
  · refine ⟨_, cap, rfl, fun k x hk => ⟨g, 0, cl x, rfl, rfl, fun j hj => ?_, rfl⟩⟩
    have hkl := (List.getElem?_eq_some_iff.1 hk).1
    have q2 := rc_at l k x hk j hj
    rw [← htk, List.getElem?_take_of_lt (by omega)] at q2
    rw [Nat.zero_add, cell_of hg]
    simpa using q2
theorem size_rl : (Try.prog.info? 37).map (·.size) = some 3 := by kernel_rfl
theorem loadVar_rl {w : World} {b : Nat} {c : Array Value} {t : TypeId} (h : w.heap[b]? = some (.cells c t (0, 0))) (hc : c.size = 3) : (loadVar 37 ⟨b, 0, none⟩).run Try.prog w = .ok (.agg c) w :=
  run_loadVar_row w b t _ _ _ _ h Try.underlying37 rfl (by rw [size_rl, hc])
theorem sa_at {w : World} {os : Option Addr} {ss : List Sx} (h : SA w os ss) : ∀ x ∈ ss.map rfs, At w x.oa x.c := by
  intro x hx
  obtain ⟨y, hy, rfl⟩ := List.mem_map.1 hx
  obtain ⟨k, hk, e⟩ := List.getElem_of_mem hy
  obtain ⟨-, -, -, -, -, q, -⟩ := h.read (k := k) (x := y) (by rw [List.getElem?_eq_getElem hk, e])
  exact q
/-- what is handed back -/
theorem LP.end {w a : World} {oe os od : Option Addr} {ce cs cd : Nat} {es : List Ex} {ss : List Sx} {rs : List Rd} {oa ob : Option Addr} {le c d ls ld : Nat} (hl : LG w oe os od es ss rs) (h1 : ss.length = ls) (h2 : rs.length = ld) (h : LP w a oe os od le ce ls cs ld cd (.slice oa ls c) ls (tcs (ss.map rfs)) (.slice ob ld d) ld (rc rs)) :
    (((a.setCell ⟨w.heap.size + 1, 0, none⟩ (.slice oe le ce)).setCell ⟨w.heap.size + 1, 1, none⟩ (.slice oa ls c)).setCell ⟨w.heap.size + 1, 2, none⟩ (.slice ob ld d)).heap[w.heap.size + 1]? = some (.cells #[.slice oe le ce, .slice oa ls c, .slice ob ld d] 37 (0, 0)) ∧ RG (((a.setCell ⟨w.heap.size + 1, 0, none⟩ (.slice oe le ce)).setCell ⟨w.heap.size + 1, 1, none⟩ (.slice oa ls c)).setCell ⟨w.heap.size + 1, 2, none⟩ (.slice ob ld d)) oe oa ob es (ss.map rfs) rs ∧ Below w.heap.size w (((a.setCell ⟨w.heap.size + 1, 0, none⟩ (.slice oe le ce)).setCell ⟨w.heap.size + 1, 1, none⟩ (.slice oa ls c)).setCell ⟨w.heap.size + 1, 2, none⟩ (.slice ob ld d)) := by
  have K := (((KB.refl (w.heap.size + 1) a).setCell 0 (.slice oe le ce)).setCell 1 (.slice oa ls c)).setCell 2 (.slice ob ld d)
  have B : Below w.heap.size w (((a.setCell ⟨w.heap.size + 1, 0, none⟩ (.slice oe le ce)).setCell ⟨w.heap.size + 1, 1, none⟩ (.slice oa ls c)).setCell ⟨w.heap.size + 1, 2, none⟩ (.slice ob ld d)) :=
    ((h.b.setCell (by show w.heap.size ≤ w.heap.size + 1; omega) _).setCell (by show w.heap.size ≤ w.heap.size + 1; omega) _).setCell (by show w.heap.size ≤ w.heap.size + 1; omega) _
  refine ⟨(Ba.heap_setCell_same (Ba.heap_setCell_same (Ba.heap_setCell_same h.h2 _) _) _).trans rfl, ⟨hl.ev.below B, ?_, ?_⟩, B⟩
  · have ov := Rk.own_keep h.ov (w' := ((a.setCell ⟨w.heap.size + 1, 0, none⟩ (.slice oe le ce)).setCell ⟨w.heap.size + 1, 1, none⟩ (.slice oa ls c)).setCell ⟨w.heap.size + 1, 2, none⟩ (.slice ob ld d)) fun k hk => by
      obtain ⟨_, cur, q⟩ := Rk.own_blk h.ov k hk
      exact K.block k (heap_lt q) fun e => by rw [e, h.h2] at q; cases q
    clear K h
    generalize ((a.setCell ⟨w.heap.size + 1, 0, none⟩ (.slice oe le ce)).setCell ⟨w.heap.size + 1, 1, none⟩ (.slice oa ls c)).setCell ⟨w.heap.size + 1, 2, none⟩ (.slice ob ld d) = W3 at ov B ⊢
    rw [show ls = (ss.map rfs).length by rw [List.length_map, h1]] at ov
    obtain ⟨oa2, c2, e, q⟩ := own_ta ov (sa_at (hl.st.below B))
    cases e
    exact q
  · have ou := Rk.own_keep h.ou (w' := ((a.setCell ⟨w.heap.size + 1, 0, none⟩ (.slice oe le ce)).setCell ⟨w.heap.size + 1, 1, none⟩ (.slice oa ls c)).setCell ⟨w.heap.size + 1, 2, none⟩ (.slice ob ld d)) fun k hk => by
      obtain ⟨_, cur, q⟩ := Rk.own_blk h.ou k hk
      exact K.block k (heap_lt q) fun e => by rw [e, h.h2] at q; cases q
    clear K h
    generalize ((a.setCell ⟨w.heap.size + 1, 0, none⟩ (.slice oe le ce)).setCell ⟨w.heap.size + 1, 1, none⟩ (.slice oa ls c)).setCell ⟨w.heap.size + 1, 2, none⟩ (.slice ob ld d) = W3 at ou B ⊢
    rw [← h2] at ou
    obtain ⟨oa2, c2, e, q⟩ := own_ro ou
    cases e
    exact q
/-- another block is written -/
theorem LP.other {w a : World} {oe os od : Option Addr} {le ce ls cs ld cd : Nat} {v : Value} {n : Nat} {xs : List Value} {u : Value} {m : Nat} {ys : List Value} (h : LP w a oe os od le ce ls cs ld cd v n xs u m ys) {X i : Nat} {z : Value} (h0 : w.heap.size + 2 < X) (hv : v.ownBlock ≠ some X) (hu : u.ownBlock ≠ some X) : LP w (a.setCell ⟨X, i, none⟩ z) oe os od le ce ls cs ld cd v n xs u m ys := by
  have K := (KB.refl X a).setCell i z
  refine ⟨K.heap h.h1 (by omega), K.heap h.h2 (by omega), K.heap h.h3 (by omega), Rk.own_keep h.ov fun k hk => ?_, Rk.own_keep h.ou fun k hk => ?_, h.b.setCell (by show w.heap.size ≤ X; omega) _⟩
  · obtain ⟨_, cur, q⟩ := Rk.own_blk h.ov k hk
    exact K.block k (heap_lt q) fun e => hv (by rw [hk, e])
  · obtain ⟨_, cur, q⟩ := Rk.own_blk h.ou k hk
    exact K.block k (heap_lt q) fun e => hu (by rw [hk, e])
theorem ts_one (t n : Int) (a : Option Addr) (l c : Nat) : ∀ u ∈ [Value.int .i64 t, .int .i64 n, .slice a l c], u.oneCell' = true := by
  intro u hu
  simp at hu
  rcases hu with rfl | rfl | rfl <;> rfl
set_option maxRecDepth 100000 in
set_option maxHeartbeats 6400000 in
theorem refl_any (oe os od : Option Addr) (ce cs cd : Nat) (es : List Ex) (ss : List Sx) (rs : List Rd) (w : World) (h : LG w oe os od es ss rs) (hs : ss.length ≤ 500) (hl : rs.length ≤ 500) :
    Calls Try.prog 10 #[.agg #[.slice oe es.length ce, .slice os ss.length cs, .slice od rs.length cd]] w fun r w' => ∃ ot c1 oq c2, r = .returned (.agg #[.slice oe es.length ce, .slice ot ss.length c1, .slice oq rs.length c2]) ∧ RG w' oe ot oq es (ss.map rfs) rs ∧ Below w.heap.size w w' := by
  have HL := hide h
  obtain ⟨le, hle⟩ : ∃ le, es.length = le := ⟨_, rfl⟩
  obtain ⟨ls, hls⟩ : ∃ ls, ss.length = ls := ⟨_, rfl⟩
  obtain ⟨ld, hld⟩ : ∃ ld, rs.length = ld := ⟨_, rfl⟩
  have HLS := hide hls
  have HLD := hide hld
  rw [hle]
  rw [hls] at hs ⊢
  rw [hld] at hl ⊢
  have P0 : Hid (LP w (((w.alloc (.cells #[.slice oe le ce, .slice os ls cs, .slice od ld cd] 26)).alloc (.cells #[.slice none 0 0, .slice none 0 0, .slice none 0 0] 37)).alloc (.cells #[.slice oe le ce, .slice none 0 0, .slice none 0 0] 37)) oe os od le ce ls cs ld cd (.slice none 0 0) 0 [] (.slice none 0 0) 0 []) := by
    have b1 := below_alloc w (.cells #[.slice oe le ce, .slice os ls cs, .slice od ld cd] 26)
    have b2 := below_alloc (w.alloc (.cells #[.slice oe le ce, .slice os ls cs, .slice od ld cd] 26)) (.cells #[.slice none 0 0, .slice none 0 0, .slice none 0 0] 37)
    have b3 := below_alloc ((w.alloc (.cells #[.slice oe le ce, .slice os ls cs, .slice od ld cd] 26)).alloc (.cells #[.slice none 0 0, .slice none 0 0, .slice none 0 0] 37)) (.cells #[.slice oe le ce, .slice none 0 0, .slice none 0 0] 37)
    have a1 := heap_new w (.cells #[.slice oe le ce, .slice os ls cs, .slice od ld cd] 26)
    have a2 := heap_new (w.alloc (.cells #[.slice oe le ce, .slice os ls cs, .slice od ld cd] 26)) (.cells #[.slice none 0 0, .slice none 0 0, .slice none 0 0] 37)
    have a3 := heap_new ((w.alloc (.cells #[.slice oe le ce, .slice os ls cs, .slice od ld cd] 26)).alloc (.cells #[.slice none 0 0, .slice none 0 0, .slice none 0 0] 37)) (.cells #[.slice oe le ce, .slice none 0 0, .slice none 0 0] 37)
    rw [World.size_alloc] at a2
    rw [World.size_alloc, World.size_alloc] at a3
    exact ⟨heap_below a1 (btr b2 b3), heap_below a2 b3, a3, World.ownsRow_nil _ _ _ _, World.ownsRow_nil _ _ _ _, btr b1 (btr b2 b3)⟩
  clear h hle hls hld
  go_enter Try.func10, Try.ntmps10
  go_wp2_with fail
  generalize ((w.alloc (.cells #[.slice oe le ce, .slice os ls cs, .slice od ld cd] 26)).alloc (.cells #[.slice none 0 0, .slice none 0 0, .slice none 0 0] 37)).alloc (.cells #[.slice oe le ce, .slice none 0 0, .slice none 0 0] 37) = W0 at P0 ⊢
  go_loopw [17] (fun i wr => ∃ (j : Nat) (v : Value), j ≤ ls ∧ i = .int .i64 j ∧ LP w wr oe os od le ce ls cs ld cd v j (tcs ((ss.take j).map rfs)) (.slice none 0 0) 0 []) (fun i _ => ls - (intOf i).toNat)
  case atStart => exact ⟨0, _, Nat.zero_le _, rfl, by simpa [tcs] using P0.out⟩
  case round =>
    clear P0
    obtain ⟨j, v, hj, rfl, p1⟩ := hrel
    have P1 := hide p1
    clear p1
    by_cases hjt : j < ls
    · have hjt' : (j : Int) < (ls : Int) := by omega
      obtain ⟨y, hy⟩ : ∃ y, ss[j]? = some y := ⟨_, List.getElem?_eq_getElem (by rw [HLS.out]; exact hjt)⟩
      obtain ⟨sb, so, eos, t0, t1, -, -, u0, u1⟩ := (HL.out.below P1.out.b).st.read hy
      subst eos
      have TK : Hid (tcs ((ss.take (j + 1)).map rfs) = tcs ((ss.take j).map rfs) ++ [.int .i64 (tidOf y.e), .int .i64 (clkOf y.e), .slice y.oa y.c.length y.cap]) := by
        show _ = _
        rw [List.take_add_one, hy, List.map_append]
        simp [tcs, tcl, rfs]
      have RD := hide fun u => qrd_any y.e u0 u1 u
      have PL := hide fun u => qpl_any y.e u
      have LB := Ep.lo_bits y.e u0 (by omega)
      have hT : Hid (tidOf y.e = (if ownB y.e then rdt y.e else -1) ∧ clkOf y.e = (if ownB y.e then rdc y.e else 0)) := by
        show _ ∧ _
        unfold tidOf clkOf rdt rdc
        cases ownB y.e <;> simp
      obtain ⟨oa, c, rfl⟩ := qown_sl P1.out.ov
      have P2 := hide (P1.out.below (below_alloc wr (.cells #[.int .u64 y.e, .slice y.oa y.c.length y.cap] 55)))
      have S2 := hide (heap_new wr (.cells #[.int .u64 y.e, .slice y.oa y.c.length y.cap] 55))
      clear hy
      obtain ⟨i0, hi, hz0, hz1, hz2⟩ := qinfo_p info_ts
      have INF := hide (And.intro hi (And.intro hz0 (And.intro hz1 hz2)))
      have LN : Hid ((tcs ((ss.take j).map rfs)).length = j * 3) := by
        show _ = _
        rw [tcs_len, List.length_map, List.length_take, HLS.out]; congr 1; omega
      clear hi hz0 hz1 hz2
      generalize tcs ((ss.take j).map rfs) = XS at *
      generalize rdN y.e = dN at *
      generalize rdT y.e = dT at *
      generalize rdt y.e = dt at *
      generalize rdc y.e = dc at *
      generalize rdk y.e = dk at *
      generalize tidOf y.e = ty at *
      generalize clkOf y.e = tc at *
      generalize ownB y.e = ow at *
      go_wp2_with fail
      generalize wr.alloc (.cells #[.int .u64 y.e, .slice y.oa y.c.length y.cap] 55) = W2 at *
      generalize wr.heap.size = B5 at *
      refine (RD.out _).mono ?_
      rintro r w3 ⟨rfl, b3⟩
      have P3 := hide (P2.out.below b3)
      have S3 := hide (heap_below S2.out b3)
      have s1 : w3.cell? ⟨B5, 1, none⟩ = some (.slice y.oa y.c.length y.cap) := cell_of S3.out 1
      have hS3 := heap_lt S3.out
      have NV : Hid (∀ k, (Value.slice oa j c).ownBlock = some k → k < w3.heap.size) := fun k hk => by
        obtain ⟨_, cur, q⟩ := Rk.own_blk P3.out.ov k hk
        exact heap_lt q
      have H3L := heap_lt P3.out.h3
      clear b3
      have c1 := below_alloc w3 (.cells #[.bool dN, .bool dT, .int .i64 dt, .int .i64 dc] 68)
      have c2 := below_alloc (w3.alloc (.cells #[.bool dN, .bool dT, .int .i64 dt, .int .i64 dc] 68)) (.cells #[.int .i64 (-1), .int .i64 0, .slice y.oa y.c.length y.cap] 66)
      have E4 := hide (heap_below (heap_new w3 (.cells #[.bool dN, .bool dT, .int .i64 dt, .int .i64 dc] 68)) c2)
      have T4' := heap_new (w3.alloc (.cells #[.bool dN, .bool dT, .int .i64 dt, .int .i64 dc] 68)) (.cells #[.int .i64 (-1), .int .i64 0, .slice y.oa y.c.length y.cap] 66)
      rw [World.size_alloc] at T4'
      have T4 := hide T4'
      have P4 := hide (P3.out.below (btr c1 c2))
      clear c1 c2 T4'
      go_wp2_with fail
      generalize (w3.alloc (.cells #[.bool dN, .bool dT, .int .i64 dt, .int .i64 dc] 68)).alloc (.cells #[.int .i64 (-1), .int .i64 0, .slice y.oa y.c.length y.cap] 66) = W4 at *
      generalize w3.heap.size = E6 at *
      refine (PL.out _).mono ?_
      rintro r w5 ⟨rfl, b5⟩
      have P5 := hide (P4.out.below b5)
      have E5 := hide (heap_below E4.out b5)
      have T5 := hide (heap_below T4.out b5)
      clear b5
      have o1 : w5.cell? ⟨w.heap.size + 2, 1, none⟩ = some (.slice oa j c) := cell_of P5.out.h3 1
      have hNE : E6 + 1 ≠ w.heap.size + 2 := fun e => by
        have q1 := T5.out
        rw [e, P5.out.h3] at q1
        cases q1
      have t0' : w5.cell? ⟨E6 + 1, 0, none⟩ = some (.int .i64 (-1)) := cell_of T5.out 0
      have t1' : w5.cell? ⟨E6 + 1, 1, none⟩ = some (.int .i64 0) := cell_of T5.out 1
      have t2' : w5.cell? ⟨E6 + 1, 2, none⟩ = some (.slice y.oa y.c.length y.cap) := cell_of T5.out 2
      have hTl := heap_lt T5.out
      clear t0 t1 s1
      cases ow
      · obtain ⟨e1, e2⟩ := hT.out
        simp only [Bool.false_eq_true, if_false] at e1 e2
        subst e1 e2
        have P6 := P5
        have OW := hide (own_below P6.out.ov (below_alloc w5 (.cells #[.int .i64 (-1), .int .i64 0, .slice y.oa y.c.length y.cap] 66)))
        have X7 := hide (heap_new w5 (.cells #[.int .i64 (-1), .int .i64 0, .slice y.oa y.c.length y.cap] 66))
        have P7 := hide (P6.out.below (below_alloc w5 (.cells #[.int .i64 (-1), .int .i64 0, .slice y.oa y.c.length y.cap] 66)))
        have hO3 := heap_lt P6.out.h3
        have hO4 := P6.out.b.size
        go_wp2_with (at_builtin; refine wpList_append_own_at _ rfl _ _ 34 rfl w.heap.size 66 i0 _ 3 40 Try.underlying34 INF.out.1 INF.out.2.1 INF.out.2.2.1 INF.out.2.2.2 rfl (by decide) _ _ _ rfl OW.out ⟨w5.heap.size, 0, none⟩ 1 1 [.int .i64 (-1), .int .i64 0, .slice y.oa y.c.length y.cap] rfl rfl ?c1 (ts_one _ _ _ _ _) ?c3 ?c4 ?c5 ?_)
        case c1 =>
          intro q z hq
          first
            | (rw [Addr.add_lit, Nat.zero_add, cell_of X7.out]; simpa using hq)
            | (simpa using hq)
        case c3 => unfold maxLen; omega
        case c4 => omega
        case c5 => rw [World.size_alloc]; omega
        intro v' w8 ho hg _ hat
        obtain ⟨oa2, c2, e2⟩ := qown_sl ho
        subst e2
        have P8 := hide (P7.out.putS ho hg)
        have h83 : w8.heap[w.heap.size + 2]? = some (.cells #[.slice oe le ce, .slice oa j c, .slice none 0 0] 37 (0, 0)) := (hg.block _ (by rw [World.size_alloc]; omega) (fun e => (own_ty P7.out.ov P7.out.h3 (by decide)) (by rw [e]))).trans P7.out.h3
        have o8 : w8.cell? ⟨w.heap.size + 2, 1, none⟩ = some (.slice oa j c) := cell_of h83 1
        have f8 : w8.frozen? ⟨w.heap.size + 2, 1, none⟩ = false := frozen_of h83 1
        clear ho hg hat h83
        go_wp2_with fail
        go_roundw
        case rel => exact ⟨j + 1, _, by omega, by go_num, by rw [TK.out]; exact P8.out⟩
        case measure => simp [intOf]; omega
      · obtain ⟨e1, e2⟩ := hT.out
        simp only [if_true] at e1 e2
        subst e1 e2
        have g2 : w5.cell? ⟨E6, 2, none⟩ = some (.int .i64 ty) := cell_of E5.out 2
        have g3 : w5.cell? ⟨E6, 3, none⟩ = some (.int .i64 tc) := cell_of E5.out 3
        have z0 := frozen_of T5.out 0
        have z1 := frozen_of T5.out 1
        have T6 : Hid (((w5.setCell ⟨E6 + 1, 0, none⟩ (.int .i64 ty)).setCell ⟨E6 + 1, 1, none⟩ (.int .i64 tc)).heap[E6 + 1]? = some (.cells #[.int .i64 ty, .int .i64 tc, .slice y.oa y.c.length y.cap] 66 (0, 0))) := (Ba.heap_setCell_same (Ba.heap_setCell_same T5.out _) _).trans rfl
        have P6 : Hid (LP w ((w5.setCell ⟨E6 + 1, 0, none⟩ (.int .i64 ty)).setCell ⟨E6 + 1, 1, none⟩ (.int .i64 tc)) oe (some ⟨sb, so, none⟩) od le ce ls cs ld cd (.slice oa j c) j XS (.slice none 0 0) 0 []) := by
          have n1 : (Value.slice oa j c).ownBlock ≠ some (E6 + 1) := fun e => by have := NV.out _ e; omega
          have n2 : (Value.slice none 0 0).ownBlock ≠ some (E6 + 1) := fun e => by simp [Value.ownBlock] at e
          exact (P5.out.other (by omega) n1 n2).other (by omega) n1 n2
        have OW := hide (own_below P6.out.ov (below_alloc ((w5.setCell ⟨E6 + 1, 0, none⟩ (.int .i64 ty)).setCell ⟨E6 + 1, 1, none⟩ (.int .i64 tc)) (.cells #[.int .i64 ty, .int .i64 tc, .slice y.oa y.c.length y.cap] 66)))
        have X7 : Hid ((((w5.setCell ⟨E6 + 1, 0, none⟩ (.int .i64 ty)).setCell ⟨E6 + 1, 1, none⟩ (.int .i64 tc)).alloc (.cells #[.int .i64 ty, .int .i64 tc, .slice y.oa y.c.length y.cap] 66)).heap[w5.heap.size]? = some (.cells #[.int .i64 ty, .int .i64 tc, .slice y.oa y.c.length y.cap] 66 (0, 0))) := by
          have q := heap_new ((w5.setCell ⟨E6 + 1, 0, none⟩ (.int .i64 ty)).setCell ⟨E6 + 1, 1, none⟩ (.int .i64 tc)) (.cells #[.int .i64 ty, .int .i64 tc, .slice y.oa y.c.length y.cap] 66)
          rw [show ((w5.setCell ⟨E6 + 1, 0, none⟩ (.int .i64 ty)).setCell ⟨E6 + 1, 1, none⟩ (.int .i64 tc)).heap.size = w5.heap.size by simp [World.setCell]] at q
          exact q
        have P7 := hide (P6.out.below (below_alloc ((w5.setCell ⟨E6 + 1, 0, none⟩ (.int .i64 ty)).setCell ⟨E6 + 1, 1, none⟩ (.int .i64 tc)) (.cells #[.int .i64 ty, .int .i64 tc, .slice y.oa y.c.length y.cap] 66)))
        have hO3 := heap_lt P6.out.h3
        have hO4 := P6.out.b.size
        go_wp2_with (at_builtin; refine wpList_append_own_at _ rfl _ _ 34 rfl w.heap.size 66 i0 _ 3 40 Try.underlying34 INF.out.1 INF.out.2.1 INF.out.2.2.1 INF.out.2.2.2 rfl (by decide) _ _ _ rfl OW.out ⟨w5.heap.size, 0, none⟩ 1 1 [.int .i64 ty, .int .i64 tc, .slice y.oa y.c.length y.cap] rfl rfl ?c1 (ts_one _ _ _ _ _) ?c3 ?c4 ?c5 ?_)
        case c1 =>
          intro q z hq
          first
            | (rw [Addr.add_lit, Nat.zero_add, cell_of X7.out]; simpa using hq)
            | (simpa using hq)
        case c3 => unfold maxLen; omega
        case c4 => omega
        case c5 => rw [World.size_alloc]; omega
        intro v' w8 ho hg _ hat
        obtain ⟨oa2, c2, e2⟩ := qown_sl ho
        subst e2
        have P8 := hide (P7.out.putS ho hg)
        have h83 : w8.heap[w.heap.size + 2]? = some (.cells #[.slice oe le ce, .slice oa j c, .slice none 0 0] 37 (0, 0)) := (hg.block _ (by rw [World.size_alloc]; omega) (fun e => (own_ty P7.out.ov P7.out.h3 (by decide)) (by rw [e]))).trans P7.out.h3
        have o8 : w8.cell? ⟨w.heap.size + 2, 1, none⟩ = some (.slice oa j c) := cell_of h83 1
        have f8 : w8.frozen? ⟨w.heap.size + 2, 1, none⟩ = false := frozen_of h83 1
        clear ho hg hat h83
        go_wp2_with fail
        go_roundw
        case rel => exact ⟨j + 1, _, by omega, by go_num, by rw [TK.out]; exact P8.out⟩
        case measure => simp [intOf]; omega
    · have hjt' : ¬ ((j : Int) < (ls : Int)) := by omega
      obtain rfl : j = ls := by omega
      have E1 : Hid (tcs ((ss.take j).map rfs) = tcs (ss.map rfs)) := by
        show _ = _
        rw [List.take_of_length_le (by rw [HLS.out]; exact Nat.le_refl _)]
      rw [E1.out] at P1
      obtain ⟨oa, c, rfl⟩ := qown_sl P1.out.ov
      have x2 : wr.cell? ⟨w.heap.size, 2, none⟩ = some (.slice od ld cd) := cell_of P1.out.h1 2
      clear E1
      go_wp2_with fail
      clear x2
      have PW := hide P1.out
      clear P1
      go_loopw [55] (fun i wr => ∃ (n : Nat) (u : Value), n ≤ ld ∧ i = .int .i64 n ∧ LP w wr oe os od le ce j cs ld cd (.slice oa j c) j (tcs (ss.map rfs)) u n (rc (rs.take n))) (fun i _ => ld - (intOf i).toNat)
      case atStart => exact ⟨0, _, Nat.zero_le _, rfl, by simpa [rc] using PW.out⟩
      case round =>
        clear PW
        obtain ⟨n, u, hn, rfl, p1⟩ := hrel
        have P1 := hide p1
        clear p1
        by_cases hnt : n < ld
        · have hnt' : (n : Int) < (ld : Int) := by omega
          obtain ⟨x, hx⟩ : ∃ x, rs[n]? = some x := ⟨_, List.getElem?_eq_getElem (by rw [HLD.out]; exact hnt)⟩
          obtain ⟨rb, ro, er, r0, r1, r2, r3, r4, r5⟩ := (HL.out.below P1.out.b).rc.read hx
          subst er
          have TK : Hid (rc (rs.take (n + 1)) = rc (rs.take n) ++ cl x) := by
            show _ = _
            rw [List.take_add_one, hx, rc_app]
            simp [rc]
          obtain ⟨ob, d, rfl⟩ := qown_sl P1.out.ou
          obtain ⟨i0, hi, hz0, hz1, hz2⟩ := qinfo_p qinfo_rr
          have INF := hide (And.intro hi (And.intro hz0 (And.intro hz1 hz2)))
          clear hi hz0 hz1 hz2 hx
          have o2 : wr.cell? ⟨w.heap.size + 2, 2, none⟩ = some (.slice ob n d) := cell_of P1.out.h3 2
          have hO3 := heap_lt P1.out.h3
          have bA := below_alloc wr (.cells #[.int .i64 x.g, .int .i64 x.t, .int .i64 x.f, .bool x.b, .int .i64 x.l, .int .i64 x.c] 45)
          have bB := below_alloc (wr.alloc (.cells #[.int .i64 x.g, .int .i64 x.t, .int .i64 x.f, .bool x.b, .int .i64 x.l, .int .i64 x.c] 45)) (.cells #[.int .i64 x.g, .int .i64 x.t, .int .i64 x.f, .bool x.b, .int .i64 x.l, .int .i64 x.c] 73)
          have OW := hide (own_below P1.out.ou (btr bA bB))
          have X7' := heap_new (wr.alloc (.cells #[.int .i64 x.g, .int .i64 x.t, .int .i64 x.f, .bool x.b, .int .i64 x.l, .int .i64 x.c] 45)) (.cells #[.int .i64 x.g, .int .i64 x.t, .int .i64 x.f, .bool x.b, .int .i64 x.l, .int .i64 x.c] 73)
          have X7 := hide X7'
          have P7 := hide (P1.out.below (btr bA bB))
          clear bA bB X7'
          generalize rc (rs.take n) = YS at *
          go_wp2_with (at_builtin; refine wpList_append_own_at _ rfl _ _ 35 rfl w.heap.size 73 i0 _ 6 48 Try.underlying35 INF.out.1 INF.out.2.1 INF.out.2.2.1 INF.out.2.2.2 rfl (by decide) _ _ _ rfl OW.out ⟨wr.heap.size + 1, 0, none⟩ 1 1 (cl x) rfl rfl ?c1 ?one ?c3 ?c4 ?c5 ?_)
          case c1 =>
            intro q z hq
            first
              | (rw [Addr.add_lit, Nat.zero_add, ← World.size_alloc wr (.cells #[.int .i64 x.g, .int .i64 x.t, .int .i64 x.f, .bool x.b, .int .i64 x.l, .int .i64 x.c] 45), cell_of X7.out]; simpa [cl] using hq)
              | (simpa [cl] using hq)
          case one =>
            intro q hq
            exact rc_one [x] q (by simpa [rc] using hq)
          case c3 => unfold maxLen; omega
          case c4 => omega
          case c5 => rw [World.size_alloc, World.size_alloc]; omega
          intro v' w8 ho hg _ hat
          obtain ⟨ob2, d2, e2⟩ := qown_sl ho
          subst e2
          have P8 := hide (P7.out.putR ho hg)
          have h83 : w8.heap[w.heap.size + 2]? = some (.cells #[.slice oe le ce, .slice oa j c, .slice ob n d] 37 (0, 0)) := (hg.block _ (by rw [World.size_alloc, World.size_alloc]; omega) (fun e => (own_ty P7.out.ou P7.out.h3 (by decide)) (by rw [e]))).trans P7.out.h3
          have o8 : w8.cell? ⟨w.heap.size + 2, 2, none⟩ = some (.slice ob n d) := cell_of h83 2
          have f8 : w8.frozen? ⟨w.heap.size + 2, 2, none⟩ = false := frozen_of h83 2
          clear ho hg hat h83
          go_wp2_with fail
          go_roundw
          case rel => exact ⟨n + 1, _, by omega, by go_num, by rw [TK.out]; exact P8.out⟩
          case measure => simp [intOf]; omega
        · have hnt' : ¬ ((n : Int) < (ld : Int)) := by omega
          obtain rfl : n = ld := by omega
          rw [List.take_of_length_le (by rw [HLD.out]; exact Nat.le_refl _)] at P1
          obtain ⟨ob, d, rfl⟩ := qown_sl P1.out.ou
          have EN := hide (LP.end HL.out HLS.out HLD.out P1.out)
          have o0 : wr.cell? ⟨w.heap.size + 2, 0, none⟩ = some (.slice oe le ce) := cell_of P1.out.h3 0
          have o1 : wr.cell? ⟨w.heap.size + 2, 1, none⟩ = some (.slice oa j c) := cell_of P1.out.h3 1
          have o2 : wr.cell? ⟨w.heap.size + 2, 2, none⟩ = some (.slice ob n d) := cell_of P1.out.h3 2
          have q0 : wr.cell? ⟨w.heap.size + 1, 0, none⟩ = some (.slice none 0 0) := cell_of P1.out.h2 0
          have q1 : wr.cell? ⟨w.heap.size + 1, 1, none⟩ = some (.slice none 0 0) := cell_of P1.out.h2 1
          have q2 : wr.cell? ⟨w.heap.size + 1, 2, none⟩ = some (.slice none 0 0) := cell_of P1.out.h2 2
          have f0 := frozen_of P1.out.h2 0
          have f1 := frozen_of P1.out.h2 1
          have f2 := frozen_of P1.out.h2 2
          go_wp2_with fail
          exact bodyPost_ret (results_r1 Try.results10 _ _ _ _ rfl (loadVar_rl EN.out.1 rfl)) rfl ⟨oa, c, ob, ⟨d, rfl⟩, EN.out.2.1, EN.out.2.2⟩
end Qu
end Go.Proofs.Ytgfnafipfbajcaa
