import Derived.Test.YtblfimobiibmjaaGreatZjAh19
import Derived.Test.YtblfimobiibmjaaGreatAxf
import Derived.Maps.AppendAt
namespace Go.Proofs.YtblfimobiibmjaaGreat
open Go.ChangeShapes Go.WideShapes Go.ChangeAt Go.RowKit
namespace Ax
open En Gu Eg Ba
def Oz (w : World) (B E H : Nat) (v : Value) (l : List Nat) : Prop := On w B v l ∧ ∀ g, v.ownBlock = some g → g < E ∨ H ≤ g
theorem Oz.zero {w : World} {B : Nat} {v : Value} {l : List Nat} (h : On w B v l) : Oz w B 0 0 v l := ⟨h, fun _ _ => .inr (Nat.zero_le _)⟩
theorem Oz.below {w w' : World} {B E H : Nat} {v : Value} {l : List Nat} (h : Oz w B E H v l) (hb : Below w.heap.size w w') : Oz w' B E H v l := ⟨h.1.below hb, h.2⟩
theorem Oz.old {w : World} {B H : Nat} {v : Value} {l : List Nat} (h : On w B v l) : Oz w B w.heap.size H v l := by
 refine ⟨h, fun g hg => .inl ?_⟩
 rcases h.2 with ⟨rfl, -⟩ | ⟨b, cap, cur, rfl, -, hh, -⟩
 ·cases hg
 ·cases hg
  exact heap_lt hh
theorem app_oz {w : World} {B E H : Nat} {v : Value} {l : List Nat} (W : World) (ho : Oz w B E H v l) (hb : Below w.heap.size w W) (x : Nat) (hl : l.length ≤ 90000) (hB : B ≤ w.heap.size) (hH : H ≤ w.heap.size) :
 ∃ ea' c' w', (Builtin.append_ #[67, 67] 67 #[v, .slice (some ⟨W.heap.size, 0, none⟩) 1 1]).run Tryz.prog (W.alloc (.cells #[.int .i64 (x : Int)] 3)) = .ok (.slice ea' (l.length + 1) c') w' ∧ Oz w' B E H (.slice ea' (l.length + 1) c') (l ++ [x]) ∧ Below B w w' ∧ ∀ k, E ≤ k → k < H → w'.heap[k]? = w.heap[k]? := by
 obtain ⟨i0, hi, hz, hs, hby⟩ := info_ex info_int0
 have bW := below_alloc W (.cells #[.int .i64 (x : Int)] 3)
 have bA := btr hb bW
 have hB2 : B ≤ (W.alloc (.cells #[.int .i64 (x : Int)] 3)).heap.size := by have := bA.size; omega
 obtain ⟨v', w', hr, h2, hg, -, hob⟩ := run_append_own_at (P := Tryz.prog) (W.alloc (.cells #[.int .i64 (x : Int)] 3)) B 67 67 3 i0 _ 1 8 Tryz.underlying67 hi hz hs hby rfl (by decide) _ _ _ (Eg.own_below ho.1 bA) ⟨W.heap.size, 0, none⟩ 1 1 (ns [x]) rfl (fun j u hj => by rw [Addr.add_lit, Nat.zero_add, cell_of (heap_new W _)]; simpa [ns] using hj) (ns_one _) (by unfold maxLen; omega) (by omega) hB2
 have e : ns l ++ ns [x] = ns (l ++ [x]) := by simp [ns]
 rw [e] at h2
 obtain ⟨ea', c', rfl⟩ := Eg.own_sl h2
 refine ⟨ea', c', w', hr, ⟨?_, fun g hg' => ?_⟩, ?_, fun k hk1 hk2 => ?_⟩
 ·unfold On
  rw [List.length_append]
  exact h2
 ·rcases hob with q | q
  ·exact ho.2 g (q.symm.trans hg')
  ·rw [q] at hg'
   cases hg'
   exact .inr (Nat.le_trans hH bA.size)
 ·exact ((hb.mono hB).trans (bW.mono (by have := hb.size; omega))).trans (Eg.grown_below hg (Eg.own_base ho.1) hB2)
 ·refine (hg.block k (by have := bA.size; omega) (fun q => ?_)).trans (bA.block k (by omega))
  rcases ho.2 k q.symm with z | z <;> omega
def hrF (l : List Ev) (k : Nat) : List Nat := (List.range k).flatMap (heldI l)
theorem hr_succ (l : List Ev) (k : Nat) : hrF l (k + 1) = hrF l k ++ heldI l k := by
 unfold hrF
 rw [List.range_succ, List.flatMap_append]
 simp
theorem heldI_len (l : List Ev) (k : Nat) : (heldI l k).length ≤ 2 + (l.length + l.length) := by
 unfold heldI
 split
 ·simp
 ·rename_i e he
  have h1 := done_len l e.c true l.length
  have h2 := done_len l e.c false l.length
  simp only [List.length_append]
  split <;> split <;> split <;> (try split) <;> simp <;> omega
theorem hr_len (l : List Ev) (hl : l.length ≤ 100) (k : Nat) : (hrF l k).length ≤ k * 202 := by
 induction k with
 | zero => simp [hrF]
 | succ k ih =>
   rw [hr_succ, List.length_append]
   have := heldI_len l k
   omega
theorem on_mono {w : World} {B B' : Nat} {v : Value} {l : List Nat} (h : On w B v l) (hb : B' ≤ B) : On w B' v l := by
 refine ⟨h.1, ?_⟩
 rcases h.2 with q | ⟨g, cap, cur, q1, q2, q3⟩
 ·exact .inl q
 ·exact .inr ⟨g, cap, cur, q1, Nat.le_trans hb q2, q3⟩
theorem on_keep {w w' : World} {B : Nat} {v : Value} {l : List Nat} (h : On w B v l) (hk : ∀ g, B ≤ g → g < w.heap.size → w'.heap[g]? = w.heap[g]?) : On w' B v l := by
 refine ⟨h.1, ?_⟩
 rcases h.2 with q | ⟨g, cap, cur, q1, q2, q3, q4⟩
 ·exact .inl q
 ·exact .inr ⟨g, cap, cur, q1, q2, (hk g q2 (heap_lt q3)).trans q3, q4⟩
theorem rfi_is {o : Option Nat} {k : Nat} : (rfi o == (k : Int)) = true ↔ o = some k := by
 cases o with
 | none => simp [rfi] <;> omega
 | some a => simp [rfi] <;> omega
theorem heldI5 {l : List Ev} {k : Nat} {x : Ev} (hx : l[k]? = some x) (h : x.k = 5) : heldI l k = [k] := by simp [heldI, hx, h]
theorem heldI6 {l : List Ev} {k : Nat} {x : Ev} (hx : l[k]? = some x) (h : x.k = 6) : heldI l k = if latF l x.g l.length = some k then [k] else [] := by simp [heldI, hx, h]
theorem heldIo {l : List Ev} {k : Nat} {x : Ev} (hx : l[k]? = some x) (h5 : x.k ≠ 5) (h6 : x.k ≠ 6) (h2 : x.k ≠ 2) : heldI l k = [] := by simp [heldI, hx, h5, h6, h2]
set_option maxRecDepth 100000 in
set_option maxHeartbeats 25600000 in
theorem rheld_any (w : World) (N G : Nat) (oa : Option Addr) (l : List Ev) (c : Nat) (T : TR w N G oa l) (tk : Tok l) (hl : l.length ≤ 100) (hc : l.length ≤ c) :
 Calls Tryz.prog 58 #[(.agg #[.slice oa l.length c, .pointer (some ⟨G, 0, none⟩)])] w fun r w' => ∃ v, r = .returned v ∧ On w' w.heap.size v (heldR l) ∧ Below w.heap.size w w' := by
 have HE := hide T.es
 have LK := hide (fun (h : Int) (h0 : 0 ≤ h) (u : World) (b : Below w.heap.size w u) => look_any u N G oa l c h (T.below b) tk hl hc h0)
 have DN := hide (fun (d : Nat) (t : Bool) (u : World) (b : Below w.heap.size w u) => rdone_any oa l c d t u (T.es.below b) (by omega))
 have BG := hide (fun (p : Nat) (hp : p < l.length) (u : World) (b : Below w.heap.size w u) => rbegins_any oa l c p u (T.es.below b) tk hp (by omega))
 have HR : Hid (hrF l l.length = heldR l) := rfl
 have LEN := hide (hr_len l hl)
 have TK := hide tk
 obtain ⟨n, hn⟩ : ∃ n, l.length = n := ⟨_, rfl⟩
 have HN := hide hn
 rw [hn] at hl hc LK DN BG HR ⊢
 have BX := hide (below_alloc w (.cells #[.slice oa n c, .pointer (some ⟨G, 0, none⟩)] 44))
 have X0 := hide (heap_new w (.cells #[.slice oa n c, .pointer (some ⟨G, 0, none⟩)] 44))
 have ZW : Hid (w.heap.size ≤ (w.alloc (.cells #[.slice oa n c, .pointer (some ⟨G, 0, none⟩)] 44)).heap.size) := BX.out.size
 generalize hW : w.alloc (.cells #[.slice oa n c, .pointer (some ⟨G, 0, none⟩)] 44) = W at *
 have t0 := cell_of X0.out 0
 simp at t0
 clear T hn tk
 go_enter Tryz.func58, Tryz.ntmps58
 go_wp2_with fail
 clear hW t0
 go_loopw [3, 13] (fun ov iv wr => ∃ k : Nat, k ≤ n ∧ iv = .int .i64 (k : Int) ∧ On wr W.heap.size ov (hrF l k) ∧ Below W.heap.size W wr) (fun _ iv _ => n - (intOf iv).toNat)
 case atStart => exact ⟨0, by omega, rfl, ⟨rfl, .inl ⟨rfl, rfl⟩⟩, Below.refl _ _⟩
 case round =>
  obtain ⟨k, hk, rfl, ow, bl⟩ := hrel
  have BL := hide bl
  have OW := hide ow
  have LL := LEN.out k
  obtain ⟨ea, ca, rfl, -, -⟩ := ow.sl
  obtain ⟨m, hm⟩ : ∃ m, (hrF l k).length = m := ⟨_, rfl⟩
  have HM := hide hm
  rw [hm] at LL OW ⊢
  clear ow hm
  by_cases hlt : k < n
  ·have hlt' : (k : Int) < (n : Int) := by omega
   have k0 : (0 : Int) ≤ (k : Int) := by omega
   have k1 : (k : Int) ≤ (c : Int) := by omega
   have BW := hide (btr BX.out bl)
   obtain ⟨x, hx⟩ : ∃ x, l[k]? = some x := get_lt (by rw [HN.out]; exact hlt)
   have E2 := hide (HE.out.below BW.out)
   obtain ⟨b1, o1, rfl, -⟩ := E2.out k x hx
   obtain ⟨p0, p1, p2, p3, p4, p5, p6, p7⟩ := E2.out.read hx
   have HX := hide hx
   have NEXT := hide (hr_succ l k)
   clear bl hx
   go_upto_region 5 with fail
   have X1 := hide (heap_new wr (.cells #[.int .i64 x.k, .int .i64 x.g, .int .i64 x.c, .int .i64 x.a, .int .i64 x.v, .int .i64 x.m, .bool x.s, .bool x.o] 50))
   have B1 := hide (btr BL.out (below_alloc wr (.cells #[.int .i64 x.k, .int .i64 x.g, .int .i64 x.c, .int .i64 x.a, .int .i64 x.v, .int .i64 x.m, .bool x.s, .bool x.o] 50)))
   have O1 := hide (fun H => (Oz.old (H := H) OW.out).below (below_alloc wr (.cells #[.int .i64 x.k, .int .i64 x.g, .int .i64 x.c, .int .i64 x.a, .int .i64 x.v, .int .i64 x.m, .bool x.s, .bool x.o] 50)))
   have Z1 : Hid (wr.heap.size < (wr.alloc (.cells #[.int .i64 x.k, .int .i64 x.g, .int .i64 x.c, .int .i64 x.a, .int .i64 x.v, .int .i64 x.m, .bool x.s, .bool x.o] 50)).heap.size) := by
    show _ < _
    rw [World.size_alloc]
    omega
   obtain ⟨w2, hw2⟩ : ∃ u, wr.alloc (.cells #[.int .i64 x.k, .int .i64 x.g, .int .i64 x.c, .int .i64 x.a, .int .i64 x.v, .int .i64 x.m, .bool x.s, .bool x.o] 50) = u := ⟨_, rfl⟩
   rw [hw2] at X1 B1 O1 Z1 ⊢
   obtain ⟨B, hBB⟩ : ∃ B, wr.heap.size = B := ⟨_, rfl⟩
   rw [hBB] at X1 Z1 O1 ⊢
   have x0 := cell_of X1.out 0
   have x1 := cell_of X1.out 1
   have x2 := cell_of X1.out 2
   have x4 := cell_of X1.out 4
   have T2 := hide (heap_below X0.out B1.out)
   have t0 := cell_of T2.out 0
   have t1 := cell_of T2.out 1
   simp at x0 x1 x2 x4 t0 t1
   clear hw2 p0 p1 p2 p3 p4 p5 p6 p7 hBB E2 BL OW
   by_cases h5 : x.k = 5
   ·have e5 : (x.k == 5) = true := by simp [h5]
    have e6 : (x.k == 6) = false := by simp [h5]
    have e2 : (x.k != 2) = true := by simp [h5]
    have HI := hide (heldI5 HX.out h5)
    obtain ⟨ea', c', w6, hap, o6, b6, kp⟩ := app_oz w2 (O1.out w2.heap.size) (Below.refl _ _) k (by rw [HM.out]; omega) B1.out.size (Nat.le_refl _)
    rw [HM.out] at hap o6
    have O6 := hide o6.1
    have B6 := hide (B1.out.trans b6)
    have y0 : w6.cell? ⟨B, 0, none⟩ = some (.int .i64 x.k) := cell_of ((kp B (Nat.le_refl _) Z1.out).trans X1.out) 0
    clear o6 b6 kp h5
    go_wp2_with (at_builtin; refine Lib.wpList_append_run _ (by rfl) _ _ _ _ (by rfl) _ _ (by rfl) (by rfl) _ _ hap ?_)
    go_roundw
    case measure => simp [intOf]; omega
    case rel => exact ⟨k + 1, by omega, by simp, by rw [NEXT.out, HI.out]; exact O6.out, B6.out⟩
   by_cases h6 : x.k = 6
   ·have e5 : (x.k == 5) = false := by simp [h6]
    have e6 : (x.k == 6) = true := by simp [h6]
    have e2 : (x.k != 2) = true := by simp [h6]
    have g0 : 0 ≤ x.g := TK.out.cw.g k x HX.out (by omega)
    have HI := hide (heldI6 HX.out h6)
    have LC := hide (LK.out x.g g0 w2 (btr BX.out B1.out))
    clear h5 h6 g0
    go_wp2_with fail
    refine LC.out.mono ?_
    rintro r w7 ⟨s, rfl, b7⟩
    have B7 := hide (btr B1.out b7)
    have y0 : w7.cell? ⟨B, 0, none⟩ = some (.int .i64 x.k) := cell_of (heap_below X1.out b7) 0
    have O7 := hide ((O1.out w2.heap.size).below b7)
    have X7 := hide (heap_below X1.out b7)
    have Z7 : Hid (w2.heap.size ≤ w7.heap.size) := b7.size
    rw [HN.out] at HI
    obtain ⟨ol, hol⟩ : ∃ o, latF l x.g n = o := ⟨_, rfl⟩
    rw [hol] at HI ⊢
    clear b7 hol
    go_wp2_with fail
    change (_ : Act → World → Prop) (Act.put _ _ (Value.int .i64 (rfi ol))) _
    cases q : (rfi ol == (k : Int))
    ·have HJ : Hid (heldI l k = []) := by
      show _ = _
      rw [HI.out, if_neg (fun z => by rw [rfi_is.2 z] at q; cases q)]
     go_wp2_with fail
     go_roundw
     case measure => simp [intOf]; omega
     case rel => exact ⟨k + 1, by omega, by simp, by rw [NEXT.out, HJ.out, List.append_nil]; exact O7.out.1, B7.out⟩
    ·have HJ : Hid (heldI l k = [k]) := by
      show _ = _
      rw [HI.out, if_pos (rfi_is.1 q)]
     obtain ⟨ea', c', w6, hap, o6, b6, kp⟩ := app_oz w7 O7.out (Below.refl _ _) k (by rw [HM.out]; omega) B7.out.size Z7.out
     rw [HM.out] at hap o6
     have O6 := hide o6.1
     have B6 := hide (B7.out.trans b6)
     have y0' : w6.cell? ⟨B, 0, none⟩ = some (.int .i64 x.k) := cell_of ((kp B (Nat.le_refl _) Z1.out).trans X7.out) 0
     clear o6 b6 kp
     go_wp2_with (at_builtin; refine Lib.wpList_append_run _ (by rfl) _ _ _ _ (by rfl) _ _ (by rfl) (by rfl) _ _ hap ?_)
     go_roundw
     case measure => simp [intOf]; omega
     case rel => exact ⟨k + 1, by omega, by simp, by rw [NEXT.out, HJ.out]; exact O6.out, B6.out⟩
   by_cases h2 : x.k = 2
   ·have e5 : (x.k == 5) = false := by simp [h2]
    have e6 : (x.k == 6) = false := by simp [h2]
    have e2 : (x.k != 2) = false := by simp [h2]
    obtain ⟨ms, c0, c1⟩ := make_size TK.out HX.out h2
    obtain ⟨d, hd⟩ : ∃ d : Nat, x.c = (d : Int) := ⟨x.c.toNat, by omega⟩
    rw [hd] at x2
    have SZ4 := (sz_is TK.out d).2
    rw [hd] at ms
    have DT := hide (DN.out d true w2 (btr BX.out B1.out))
    have DF := hide (fun u b => DN.out d false u (btr (btr BX.out B1.out) b))
    have LS := done_len l (d : Int) true l.length
    have LR := done_len l (d : Int) false l.length
    have MEM := hide (fun (t : Bool) (p : Nat) (q : p ∈ done l (d : Int) t l.length) => (show p < l.length by
     obtain ⟨⟨e, he, -⟩, -⟩ := done_lt TK.out _ _ q
     exact (List.getElem?_eq_some_iff.1 he).1))
    have MS := hide (MEM.out true)
    have MR := hide (MEM.out false)
    have HI : Hid (heldI l k = ((done l (d : Int) true l.length).map (bg l)).drop (done l (d : Int) false l.length).length ++ (if 0 < x.v then ((done l (d : Int) false l.length).map (bg l)).drop ((done l (d : Int) true l.length).length - x.v.toNat) else [])) := by
     show _ = _
     unfold heldI
     rw [HX.out]
     simp only [h2, hd]
     simp
    obtain ⟨S, hS⟩ : ∃ S, done l (d : Int) true l.length = S := ⟨_, rfl⟩
    obtain ⟨R, hR⟩ : ∃ R, done l (d : Int) false l.length = R := ⟨_, rfl⟩
    rw [HN.out] at MS MR HI LS LR hS hR
    rw [hS] at DT LS MS HI
    rw [hR] at DF LR MR HI
    obtain ⟨nS, hnS⟩ : ∃ n, S.length = n := ⟨_, rfl⟩
    obtain ⟨nR, hnR⟩ : ∃ n, R.length = n := ⟨_, rfl⟩
    have NS := hide hnS
    have NR := hide hnR
    rw [hnS] at LS HI
    rw [hnR] at LR HI
    obtain ⟨sz, hsz⟩ : ∃ z : Nat, x.v = (z : Int) := ⟨x.v.toNat, by omega⟩
    have sz4 : sz ≤ 4 := by omega
    rw [hsz] at x4 HI
    have HSZ := hide hsz
    clear h5 h6 h2 ms c0 c1 hd SZ4 MEM hS hR hnS hnR hsz
    go_wp2_with fail
    refine DT.out.mono ?_
    rintro r w3 ⟨v3, rfl, o3, b3⟩
    obtain ⟨sa, sc, rfl, -, -⟩ := o3.sl
    have O3 := hide o3
    have Z3 : Hid (w2.heap.size ≤ w3.heap.size) := b3.size
    have OO3 := hide (fun H => (O1.out H).below b3)
    have B3 := hide (btr B1.out b3)
    have DG := hide (DF.out w3 b3)
    have X3 := hide (heap_below X1.out b3)
    have T3 := hide (heap_below T2.out b3)
    rw [NS.out] at O3 ⊢
    have y2 : w3.cell? ⟨B, 2, none⟩ = some (.int .i64 (d : Int)) := by rw [← x2]; exact (cell_of X3.out 2).trans (cell_of X1.out 2).symm
    have t0' := cell_of T3.out 0
    simp at t0'
    clear b3 o3 DT DF x0 x1 x2 x4 t0 t1
    go_wp2_with fail
    refine DG.out.mono ?_
    rintro r w4 ⟨v4, rfl, o4, b4⟩
    obtain ⟨ra, rc, rfl, -, -⟩ := o4.sl
    have O4 := hide o4
    have OI := hide (O3.out.below b4)
    rw [NR.out] at O4 ⊢
    have B4 := hide (btr B3.out b4)
    have X4 := hide (heap_below X3.out b4)
    have T4 := hide (heap_below T3.out b4)
    have Z4 : Hid (w3.heap.size ≤ w4.heap.size) := b4.size
    have OO := hide ((OO3.out w4.heap.size).below b4)
    clear b4 o4 DG y2 t0'
    obtain ⟨A, hA⟩ : ∃ A, S.map (bg l) = A := ⟨_, rfl⟩
    obtain ⟨E, hE⟩ : ∃ E, R.map (bg l) = E := ⟨_, rfl⟩
    have LA : Hid (A.length = nS) := by show _ = _; rw [← hA, List.length_map]; exact NS.out
    have LE : Hid (E.length = nR) := by show _ = _; rw [← hE, List.length_map]; exact NR.out
    have HA := hide hA
    have HEE := hide hE
    rw [hA, hE] at HI
    clear hA hE
    go_wp2_with fail
    go_loopw [3, 8] (fun ov iv wq => ∃ j : Nat, nR ≤ j ∧ (j = nR ∨ j ≤ nS) ∧ iv = .int .i64 (j : Int) ∧ Oz wq W.heap.size B w4.heap.size ov (hrF l k ++ (A.take j).drop nR) ∧ Below W.heap.size W wq ∧ w4.heap.size ≤ wq.heap.size ∧ ∀ b, B ≤ b → b < w4.heap.size → wq.heap[b]? = w4.heap[b]?) (fun _ iv _ => nS - (intOf iv).toNat)
    case atStart =>
     refine ⟨nR, Nat.le_refl _, .inl rfl, rfl, ?_, B4.out, Nat.le_refl _, fun _ _ _ => rfl⟩
     rw [List.drop_eq_nil_of_le (by rw [List.length_take]; omega), List.append_nil]
     exact OO.out
    case round =>
     rename World => wq
     obtain ⟨j, hj, hjs, rfl, oz, bq, zq, kq⟩ := hrel
     have hj90 : (hrF l k ++ (A.take j).drop nR).length ≤ 90000 := by
      rw [List.length_append, List.length_drop, List.length_take, HM.out]
      omega
     obtain ⟨eb, cb, rfl, -, -⟩ := oz.1.sl
     obtain ⟨m2, hm2⟩ : ∃ m, (hrF l k ++ (A.take j).drop nR).length = m := ⟨_, rfl⟩
     have HM2 := hide hm2
     have OQ := hide oz
     have BQ := hide bq
     have ZQ := hide zq
     have KQ := hide kq
     rw [hm2] at OQ hj90 ⊢
     clear oz bq zq kq hm2
     by_cases hlj : j < nS
     ·have hlj' : (j : Int) < (nS : Int) := by omega
      have j0 : (0 : Int) ≤ (j : Int) := by omega
      obtain ⟨p, hp⟩ : ∃ p, S[j]? = some p := ⟨_, List.getElem?_eq_getElem (by rw [NS.out]; exact hlj)⟩
      have OI2 : Hid (On wq w2.heap.size (.slice sa S.length sc) S) := by
       have q := OI.out
       rw [← NS.out] at q
       exact on_keep q fun g h1 h2 => KQ.out g (by have := Z1.out; omega) h2
      obtain ⟨gs, rfl, s0⟩ := OI2.out.cell hp
      have T5 := hide (heap_below X0.out BQ.out)
      have t0 := cell_of T5.out 0
      simp at t0
      have BGp := hide (BG.out p (MS.out p (List.mem_of_getElem? hp)))
      obtain ⟨q, hq⟩ : ∃ q, bg l p = q := ⟨_, rfl⟩
      rw [hq] at BGp
      have HQ : Hid (A[j]? = some q) := by
       show _ = _
       rw [← HA.out, List.getElem?_map, hp, ← hq]
       rfl
      have TAKE : Hid (hrF l k ++ (A.take (j + 1)).drop nR = hrF l k ++ (A.take j).drop nR ++ [q]) := by
       show _ = _
       rw [List.take_add_one, HQ.out, List.drop_append_of_le_length (by rw [List.length_take, LA.out]; omega), List.append_assoc]
       rfl
      clear hp hq
      go_upto_region 15 with fail
      go_region_law (first | (rw [if_pos (by simp [Region.wanted])]; go_simp; go_at_call 16; refine (BGp.out _ (btr (btr BX.out BQ.out) (bdrew1 _))).mono ?_; rintro r w6 ⟨rfl, m6, rfl⟩; dsimp only; obtain ⟨ea', c', w8, hap, o8, b8, kp⟩ := app_oz (wq.drewN (1 + m6)) OQ.out (bdrew _ _) q (by rw [HM2.out]; exact hj90) BQ.out.size ZQ.out; rw [show (wq.drewN (1 + m6)).heap.size = wq.heap.size from rfl, HM2.out] at hap; rw [HM2.out] at o8) | (refine Eg.step_append_run _ (by rfl) _ _ _ _ (by rfl) _ _ (by rfl) (by rfl) _ _ hap ?_))
      all_goals
       have O8 := hide o8
       have B8 := hide (BQ.out.trans b8)
       have Z8 : Hid (w4.heap.size ≤ w8.heap.size) := Nat.le_trans ZQ.out b8.size
       have K8 := hide (fun b h1 h2 => (kp b h1 h2).trans (KQ.out b h1 h2))
       clear hap o8 b8 kp s0 t0
       go_wp2_with fail
       go_roundw
       case measure => simp [intOf]; omega
       case rel => exact ⟨j + 1, by omega, .inr (by omega), by simp, by rw [TAKE.out]; exact O8.out, B8.out, Z8.out, K8.out⟩
     ·have F1 : Hid ((A.take j).drop nR = A.drop nR) := by
       show _ = _
       rw [List.take_of_length_le (by rw [LA.out]; omega)]
      have OP : Hid (Oz wq W.heap.size B w4.heap.size (.slice eb m2 cb) (hrF l k ++ A.drop nR)) := by
       have q := OQ.out
       rw [F1.out] at q
       exact q
      rw [F1.out] at HM2
      clear OQ F1
      go_wp2_with fail
      go_loopw [3, 74] (fun ov iv wp => ∃ i : Nat, i ≤ nR ∧ iv = .int .i64 (i : Int) ∧ Oz wp W.heap.size B w4.heap.size ov (hrF l k ++ A.drop nR ++ (if 0 < (sz : Int) then (E.take i).drop (nS - sz) else [])) ∧ Below W.heap.size W wp ∧ w4.heap.size ≤ wp.heap.size ∧ ∀ b, B ≤ b → b < w4.heap.size → wp.heap[b]? = w4.heap[b]?) (fun _ iv _ => nR - (intOf iv).toNat)
      case atStart => exact ⟨0, Nat.zero_le _, rfl, by simpa using OP.out, BQ.out, ZQ.out, KQ.out⟩
      case round =>
       rename World => wp
       obtain ⟨i, hi, rfl, op, bp, zp, kp⟩ := hrel
       have hi90 : (hrF l k ++ A.drop nR ++ (if 0 < (sz : Int) then (E.take i).drop (nS - sz) else [])).length ≤ 90000 := by
        rw [List.length_append, List.length_append, HM.out, List.length_drop, LA.out]
        split
        ·rw [List.length_drop, List.length_take]; omega
        ·simp; omega
       obtain ⟨ec, cc, rfl, -, -⟩ := op.1.sl
       obtain ⟨m3, hm3⟩ : ∃ m, (hrF l k ++ A.drop nR ++ (if 0 < (sz : Int) then (E.take i).drop (nS - sz) else [])).length = m := ⟨_, rfl⟩
       have HM3 := hide hm3
       have OQ := hide op
       have BQ2 := hide bp
       have ZQ2 := hide zp
       have KQ2 := hide kp
       rw [hm3] at OQ hi90 ⊢
       clear op bp zp kp hm3
       by_cases hli : i < nR
       ·have hli' : (i : Int) < (nR : Int) := by omega
        have i0 : (0 : Int) ≤ (i : Int) := by omega
        obtain ⟨p, hp⟩ : ∃ p, R[i]? = some p := ⟨_, List.getElem?_eq_getElem (by rw [NR.out]; exact hli)⟩
        have OI3 : Hid (On wp w3.heap.size (.slice ra R.length rc) R) := by
         have q := O4.out
         rw [← NR.out] at q
         exact on_keep q fun g h1 h2 => KQ2.out g (by have := Z1.out; have := Z3.out; omega) h2
        have x4 : wp.cell? ⟨B, 4, none⟩ = some (.int .i64 (sz : Int)) := by
         rw [← HSZ.out]
         exact cell_of ((KQ2.out B (Nat.le_refl _) (by have := Z1.out; have := Z3.out; have := Z4.out; omega)).trans X4.out) 4
        by_cases hz : 0 < sz
        ·have g0 : (0 : Int) < (sz : Int) := by omega
         have g1 : decide ((sz : Int) > 0) = true := by simp; omega
         have iw : IntKind.i64.wrap ((i : Int) + (sz : Int)) = (i : Int) + (sz : Int) := by rw [IntKind.wrap_i64]; omega
         by_cases hge : nS ≤ i + sz
         ·have g2 : decide ((i : Int) + (sz : Int) ≥ (nS : Int)) = true := by simp; omega
          obtain ⟨gs, rfl, s0⟩ := OI3.out.cell hp
          have T5 := hide (heap_below X0.out BQ2.out)
          have t0 := cell_of T5.out 0
          simp at t0
          have BGp := hide (BG.out p (MR.out p (List.mem_of_getElem? hp)))
          obtain ⟨q, hq⟩ : ∃ q, bg l p = q := ⟨_, rfl⟩
          rw [hq] at BGp
          have HQ : Hid (E[i]? = some q) := by
           show _ = _
           rw [← HEE.out, List.getElem?_map, hp, ← hq]
           rfl
          have TAKE : Hid (hrF l k ++ A.drop nR ++ (if 0 < (sz : Int) then (E.take (i + 1)).drop (nS - sz) else []) = hrF l k ++ A.drop nR ++ (if 0 < (sz : Int) then (E.take i).drop (nS - sz) else []) ++ [q]) := by
           show _ = _
           rw [if_pos g0, if_pos g0, List.take_add_one, HQ.out, List.drop_append_of_le_length (by rw [List.length_take, LE.out]; omega), ← List.append_assoc]
           rfl
          clear hp hq g0
          go_upto_region 20 with fail
          go_region_law (first | (rw [if_pos (by simp [Region.wanted])]; go_simp; go_at_call 16; refine (BGp.out _ (btr (btr BX.out BQ2.out) (bdrew1 _))).mono ?_; rintro r w6 ⟨rfl, m6, rfl⟩; dsimp only; obtain ⟨ea', c', w8, hap, o8, b8, kp⟩ := app_oz (wp.drewN (1 + m6)) OQ.out (bdrew _ _) q (by rw [HM3.out]; exact hi90) BQ2.out.size ZQ2.out; rw [show (wp.drewN (1 + m6)).heap.size = wp.heap.size from rfl, HM3.out] at hap; rw [HM3.out] at o8) | (refine Eg.step_append_run _ (by rfl) _ _ _ _ (by rfl) _ _ (by rfl) (by rfl) _ _ hap ?_))
          all_goals
           have O8 := hide o8
           have B8 := hide (BQ2.out.trans b8)
           have Z8 : Hid (w4.heap.size ≤ w8.heap.size) := Nat.le_trans ZQ2.out b8.size
           have K8 := hide (fun b h1 h2 => (kp b h1 h2).trans (KQ2.out b h1 h2))
           clear hap o8 b8 kp s0 t0 x4
           go_wp2_with fail
           go_roundw
           case measure => simp [intOf]; omega
           case rel => exact ⟨i + 1, by omega, by simp, by rw [TAKE.out]; exact O8.out, B8.out, Z8.out, K8.out⟩
         ·have g2 : decide ((i : Int) + (sz : Int) ≥ (nS : Int)) = false := by simp; omega
          have SAME : Hid (hrF l k ++ A.drop nR ++ (if 0 < (sz : Int) then (E.take (i + 1)).drop (nS - sz) else []) = hrF l k ++ A.drop nR ++ (if 0 < (sz : Int) then (E.take i).drop (nS - sz) else [])) := by
           show _ = _
           rw [show (E.take (i + 1)).drop (nS - sz) = [] from List.drop_eq_nil_of_le (by rw [List.length_take]; omega), show (E.take i).drop (nS - sz) = [] from List.drop_eq_nil_of_le (by rw [List.length_take]; omega)]
          clear hp g0
          go_wp2_with fail
          go_roundw
          case measure => simp [intOf]; omega
          case rel => exact ⟨i + 1, by omega, by simp, by rw [SAME.out]; exact OQ.out, BQ2.out, ZQ2.out, KQ2.out⟩
        ·have g1 : decide ((sz : Int) > 0) = false := by simp; omega
         have SAME : Hid (hrF l k ++ A.drop nR ++ (if 0 < (sz : Int) then (E.take (i + 1)).drop (nS - sz) else []) = hrF l k ++ A.drop nR ++ (if 0 < (sz : Int) then (E.take i).drop (nS - sz) else [])) := by
          show _ = _
          rw [if_neg (by omega), if_neg (by omega)]
         clear hp
         go_wp2_with fail
         go_roundw
         case measure => simp [intOf]; omega
         case rel => exact ⟨i + 1, by omega, by simp, by rw [SAME.out]; exact OQ.out, BQ2.out, ZQ2.out, KQ2.out⟩
       ·obtain rfl : i = nR := by omega
        have FIN : Hid (hrF l (k + 1) = hrF l k ++ A.drop i ++ (if 0 < (sz : Int) then (E.take i).drop (nS - sz) else [])) := by
         show _ = _
         rw [NEXT.out, HI.out, List.append_assoc, List.take_of_length_le (by rw [LE.out]; omega)]
         simp
        go_wp2_with fail
        go_roundw
        case measure => simp [intOf]; omega
        case rel => exact ⟨k + 1, by omega, by simp, by rw [FIN.out]; exact OQ.out.1, BQ2.out⟩
   ·have e5 : (x.k == 5) = false := by simp [h5]
    have e6 : (x.k == 6) = false := by simp [h6]
    have e2 : (x.k != 2) = true := by simp [h2]
    have HI := hide (heldIo HX.out h5 h6 h2)
    have O6 := hide (O1.out 0).1
    clear h5 h6 h2
    go_wp2_with fail
    go_roundw
    case measure => simp [intOf]; omega
    case rel => exact ⟨k + 1, by omega, by simp, by rw [NEXT.out, HI.out, List.append_nil]; exact O6.out, B1.out⟩
  ·obtain rfl : k = n := by omega
   have R1 : Hid (On wr W.heap.size (.slice ea m ca) (heldR l)) := by have q := OW.out; rw [HR.out] at q; exact q
   clear bl
   go_wp2_with fail
   go_ret
   exact ⟨_, rfl, on_mono R1.out ZW.out, btr BX.out BL.out⟩
end Ax
end Go.Proofs.YtblfimobiibmjaaGreat
