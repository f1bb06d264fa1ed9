import Derived.Test.YtblfimobiibmjaaGreatZjAh8
import Derived.Shelf.SlSortCmp.NoneTotal
import Derived.Shelf.Lay
import Derived.Ground.SlsfProg
import Derived.Deep.Cut
import Derived.Laws.EntriesVeiled
import Derived.Maps.AppendAt
namespace Go.Proofs
open Go.Shelf Go.RowKit Go.Lib Go.Sort
shelf_lay_g SlLaysF0.n6 Slsf 6 at Tryz 37 as YtblfimobiibmjaaGreat.sortE
end Go.Proofs
namespace Go.Proofs.YtblfimobiibmjaaGreat
open Go.ChangeShapes Go.WideShapes Go.ChangeAt Go.RowKit
namespace Eg
open En Gu Ba
open Go.Sort (SWO grow putRowK HoldsK PermIn SortedIn)
def edl (x : Ed) : List Value := [.int .i64 (x.f : Int), .int .i64 (x.t : Int), .int .i64 (x.r : Int)]
instance : Inhabited Ed := ⟨⟨0, 0, 0⟩⟩
theorem cmpI_cases (a b : Nat) : (a < b ∧ cmpI a b = -1) ∨ (a = b ∧ cmpI a b = 0) ∨ (b < a ∧ cmpI a b = 1) := by
 unfold cmpI
 rcases Nat.lt_trichotomy a b with h | h | h
 ·exact .inl ⟨h, if_pos (by omega)⟩
 ·exact .inr (.inl ⟨h, by rw [if_neg (by omega), if_neg (by omega)]⟩)
 ·exact .inr (.inr ⟨h, by rw [if_neg (by omega), if_pos (by omega)]⟩)
theorem cmpE_lt (x y : Ed) : ltOf cmpE x y = true ↔ ltE x y := by
 unfold ltOf cmpE ltE
 rw [decide_eq_true_eq]
 rcases cmpI_cases x.t y.t with ⟨h1, e1⟩ | ⟨h1, e1⟩ | ⟨h1, e1⟩ <;> rcases cmpI_cases x.f y.f with ⟨h2, e2⟩ | ⟨h2, e2⟩ | ⟨h2, e2⟩ <;> rcases cmpI_cases x.r y.r with ⟨h3, e3⟩ | ⟨h3, e3⟩ | ⟨h3, e3⟩ <;> rw [e1, e2, e3] <;> (try simp only [or3]) <;> (constructor <;> intro h <;> first | omega | (exfalso; revert h; decide) | (revert h; decide) | (simp at h) | skip)
theorem swoE : SWO (ltOf cmpE) where
 irrefl x := by
  cases h : ltOf cmpE x x
  ·rfl
  ·exact absurd ((cmpE_lt x x).1 h) (ltE_irrefl x)
 trans x y z h1 h2 := (cmpE_lt x z).2 (ltE_trans ((cmpE_lt x y).1 h1) ((cmpE_lt y z).1 h2))
 ntrans x y z h1 h2 := by
  cases h : ltOf cmpE x z
  ·rfl
  ·have h3 := (cmpE_lt x z).1 h
   have n1 : ¬ ltE x y := fun q => by rw [(cmpE_lt x y).2 q] at h1; cases h1
   have n2 : ¬ ltE y z := fun q => by rw [(cmpE_lt y z).2 q] at h2; cases h2
   unfold ltE at *
   omega
theorem agg_ed (w : World) : (isAgg 70).run Tryz.prog w = .ok true w := by kernel_rfl
theorem size_ed (w : World) : (Go.sizeOf 70).run Tryz.prog w = .ok 3 w := by kernel_rfl
theorem flat_at (d : Array Ed) (k : Nat) (hk : k < d.size * 3) : (Go.Sort.flatK edl 3 d)[k]! = (edc d.toList)[k]! := by
 rw [Go.Sort.get_flatK _ _ _ _ hk]
 have h1 : k / 3 < d.size := by omega
 obtain ⟨x, hx⟩ : ∃ x, d[k / 3]? = some x := ⟨_, Array.getElem?_eq_getElem h1⟩
 have hx2 : d[k / 3]! = x := by rw [getElem!_def, hx]
 have hl : d.toList[k / 3]? = some x := by simpa using hx
 obtain ⟨a, b, c⟩ := edc_at _ _ _ hl
 rw [hx2]
 obtain h | h | h : k % 3 = 0 ∨ k % 3 = 1 ∨ k % 3 = 2 := by omega
 ·rw [h, show k = k / 3 * 3 by omega]
  simp [a, edl]
 ·rw [h, show k = k / 3 * 3 + 1 by omega]
  simp [b, edl]
 ·rw [h, show k = k / 3 * 3 + 2 by omega]
  simp [c, edl]
theorem sortW_block {w : World} {g n : Nat} {F cur : Array Value} {os : Array Obj} {t : TypeId} {fr : Nat × Nat} (h : w.heap[g]? = some (.cells cur t fr)) : (grow (Go.Sort.putRow id (Go.Sort.ahead w n) g 0 F) os).heap[g]? = some (.cells (Go.Sort.putCells id 0 F cur) t fr) := by
 have hl := heap_lt h
 show (((Go.Sort.ahead w n).heap.modify g (Go.Sort.onCells (Go.Sort.putCells id 0 F))) ++ os)[g]? = _
 have e : (Go.Sort.ahead w n).heap = w.heap := rfl
 rw [e, Array.getElem?_append_left (by simpa using hl), Array.getElem?_modify, if_pos rfl, h]
 rfl
theorem sortW_other {w : World} {g n : Nat} {F : Array Value} {os : Array Obj} {k : Nat} (hk : k < w.heap.size) (hne : k ≠ g) : (grow (Go.Sort.putRow id (Go.Sort.ahead w n) g 0 F) os).heap[k]? = w.heap[k]? := by
 show (((Go.Sort.ahead w n).heap.modify g (Go.Sort.onCells (Go.Sort.putCells id 0 F))) ++ os)[k]? = _
 have e : (Go.Sort.ahead w n).heap = w.heap := rfl
 rw [e, Array.getElem?_append_left (by simpa using hk), Array.getElem?_modify, if_neg (Ne.symm hne)]
theorem sortW_size {w : World} {g n : Nat} {F : Array Value} {os : Array Obj} : w.heap.size ≤ (grow (Go.Sort.putRow id (Go.Sort.ahead w n) g 0 F) os).heap.size := by
 show w.heap.size ≤ (((Go.Sort.ahead w n).heap.modify g (Go.Sort.onCells (Go.Sort.putCells id 0 F))) ++ os).size
 have e : (Go.Sort.ahead w n).heap = w.heap := rfl
 rw [e]
 simp
theorem put_at (F cur : Array Value) (k : Nat) (hk : k < F.size) (hc : k < cur.size) : (Go.Sort.putCells id 0 F cur)[k]? = some F[k]! := by
 unfold Go.Sort.putCells
 rw [Array.getElem?_mapIdx, Array.getElem?_eq_getElem hc]
 simp [hk]
theorem pairs_of {d : Array Ed} (h : SortedIn (ltOf cmpE) 0 d.size d) : d.toList.Pairwise fun x y => ¬ ltE y x := by
 rw [List.pairwise_iff_getElem]
 intro i j hi hj hij
 simp only [Array.length_toList] at hi hj
 have := h i j (Nat.zero_le _) hij hj
 rw [getElem!_pos d i hi, getElem!_pos d j hj] at this
 intro q
 simp only [Array.getElem_toList] at q
 rw [(cmpE_lt _ _).2 q] at this
 cases this
set_option maxRecDepth 100000 in
set_option maxHeartbeats 3200000 in
theorem sort_any (B : Nat) (v : Value) (l : List Ed) (w : World) (ho : Ow w B v l) (hl : l.length ≤ 100000000) :
 Calls Tryz.prog 37 #[v, .func (.func 38) #[] #[]] w fun r w' => r = .returned (.tuple #[]) ∧ ∃ m : List Ed, m.Perm l ∧ (m.Pairwise fun x y => ¬ ltE y x) ∧ m.length = l.length ∧ Ow w' B v m ∧ w.grownBy w' v.ownBlock := by
 obtain ⟨oa, c, rfl, -, -⟩ := ho.sl
 rcases oa with _ | ⟨g, o, x⟩
 ·have h0 : l.length = 0 := by
   rcases ho.2 with ⟨-, q⟩ | ⟨g, cap, cur, q, -⟩
   ·exact q
   ·cases q
  have hl0 : l = [] := List.length_eq_zero_iff.1 h0
  subst hl0
  refine (AnyF.slices_SortFunc_none { YtblfimobiibmjaaGreat.sortE with } none c (.func (.func 38) #[] #[]) w).mono ?_
  rintro r w' ⟨rfl, rfl⟩
  exact ⟨rfl, [], List.Perm.refl _, List.Pairwise.nil, rfl, ho, grown_refl _ _⟩
 ·obtain ⟨rfl, rfl⟩ : o = 0 ∧ x = none := by
   rcases ho.2 with ⟨q, -⟩ | ⟨g, cap, cur, q, -⟩
   ·cases q
   ·cases q; exact ⟨rfl, rfl⟩
  obtain ⟨cur, hg, hB, hsz, hlc, hcm, hcell⟩ := own_cur ho
  have eg : ∀ args w, (callFunc 38 args).run Tryz.prog w = .ok (.enter 38 args) w := enters_of Tryz.func38 (by kernel_rfl) rfl
  have hH : HoldsK edl 3 w g 0 l.toArray := by
   intro j hj
   rw [Go.Sort.size_flatK] at hj
   have hj2 : j < l.length * 3 := by simpa using hj
   refine ⟨?_, by rw [Nat.zero_add]; exact frozen_of hg _⟩
   rw [Nat.zero_add, cell_of hg, hcell j hj2, flat_at _ _ hj]
   show (edc l)[j]? = some (edc l)[j]!
   rw [getElem!_pos (edc l) j (by rw [edc_len]; exact hj2)]
   exact List.getElem?_eq_getElem _
  have hcmp : CmpLays Tryz.prog 38 #[] edl 3 cmpE g 0 l.toArray.size w := fun _ _ _ _ x y => ecmp_any x y _
  have hcon := AnyQ.slices_SortFunc YtblfimobiibmjaaGreat.sortE 3 agg_ed size_ed edl (fun _ => rfl) (fun x v hv => by simp [edl] at hv; rcases hv with rfl | rfl | rfl <;> rfl) cmpE swoE 38 #[] g 0 c l.toArray w eg hcmp hH (heap_lt hg) (by simp; omega)
  change Calls Tryz.prog 37 _ _ _ at hcon
  rw [show l.toArray.size = l.length by simp] at hcon
  refine hcon.mono ?_
  rintro r w' ⟨rfl, d, n, os, hp, hs, rfl⟩
  have hd : d.size = l.length := by simpa using hp.1
  have hpm : d.toList.Perm l := by
   have := hp.2.2
   rw [← hd] at this
   have e1 : d.extract 0 d.size = d := by simp
   have e2 : l.toArray.extract 0 d.size = l.toArray := by rw [hd]; simp
   rw [e1, e2] at this
   simpa using this
  have hL : d.toList.length = l.length := by simpa using hd
  refine ⟨rfl, d.toList, hpm, pairs_of (by rw [hd]; exact hs), hL, ?_, ?_⟩
  ·have := own_mk (B := B) (cap := c) (m := d.toList) hB (sortW_block (n := n) (F := Go.Sort.flatK edl 3 d) (os := os) hg) (by unfold Go.Sort.putCells; rw [Array.size_mapIdx]; exact hsz) (by rw [hL]; exact hlc) hcm (fun k hk => by
    rw [hL] at hk
    have hk2 : k < d.size * 3 := by rw [hd]; exact hk
    rw [put_at _ _ _ (by rw [Go.Sort.size_flatK]; exact hk2) (by omega), flat_at _ _ hk2]
    rw [getElem!_pos (edc d.toList) k (by rw [edc_len, hL]; exact hk)]
    exact (List.getElem?_eq_getElem _).symm)
   rw [hL] at this
   exact this
  ·exact ⟨rfl, rfl, rfl, sortW_size, fun k hk hne => sortW_other hk (fun q => hne (by rw [q]; rfl))⟩
end Eg
end Go.Proofs.YtblfimobiibmjaaGreat
namespace Go.Proofs.YtblfimobiibmjaaGreat
open Go.ChangeShapes Go.WideShapes Go.ChangeAt Go.RowKit
namespace Eg
open En Gu Ba
end Eg
end Go.Proofs.YtblfimobiibmjaaGreat
namespace Go.Proofs.YtblfimobiibmjaaGreat
open Go.ChangeShapes Go.WideShapes Go.ChangeAt Go.RowKit
namespace Eg
open En Gu Ba
open Classical in
noncomputable def isB (l : List Ev) (x : Ed) : Bool := decide (isD l x)
noncomputable def allS (l : List Ev) : List Ed := allD (isB l) l.length
theorem isB_iff {l : List Ev} {x : Ed} : isB l x = true ↔ isD l x := by
 unfold isB
 simp
theorem allS_of {l : List Ev} (h : Tok l) {m : List Ed} (hp : m.Perm (allE l)) (hs : m.Pairwise fun x y => ¬ ltE y x) : m = allS l := all_is h hp hs fun _ _ _ => isB_iff
theorem allS_mem {l : List Ev} (h : Tok l) (x : Ed) : x ∈ allS l ↔ isD l x := by
 unfold allS
 rw [allD_mem]
 constructor
 ·rintro ⟨-, -, -, q⟩
  exact isB_iff.1 q
 ·intro q
  have := isD_fwd h q
  exact ⟨this.2, this.1, isD_r q, isB_iff.2 q⟩
set_option maxRecDepth 100000 in
set_option maxHeartbeats 1600000 in
theorem All_no (oa : Option Addr) (l : List Ev) (c : Nat) (w : World) (hA : EsAt w oa l) (hl : l.length ≤ 2000) (ht : tokB l = false) :
 Calls Tryz.prog 10 #[.slice oa l.length c] w fun r w' => r = .returned (.tuple #[.slice none 0 0, .int .i64 4]) ∧ Below w.heap.size w w' := by
 have IT := hide (istr_any oa l c w hA hl)
 rw [ht] at IT
 obtain ⟨M, hM⟩ : ∃ M, l.length = M := ⟨_, rfl⟩
 rw [hM] at IT ⊢
 clear hA hM hl ht
 go_enter Tryz.func10, Tryz.ntmps10
 go_wp2_with fail
 refine IT.out.mono ?_
 rintro r w1 ⟨rfl, b1⟩
 have B1 := hide b1
 clear b1 IT
 go_wp2_with fail
 go_ret2
 exact ⟨rfl, B1.out⟩
set_option maxRecDepth 100000 in
set_option maxHeartbeats 3200000 in
theorem All_yes (oa : Option Addr) (l : List Ev) (c : Nat) (w : World) (hA : EsAt w oa l) (hl : l.length ≤ 2000) (ht : tokB l = true) :
 Calls Tryz.prog 10 #[.slice oa l.length c] w fun r w' => ∃ v, r = .returned (.tuple #[v, .int .i64 0]) ∧ Ow w' w.heap.size v (allS l) ∧ Below w.heap.size w w' := by
 have hT := tokB_iff.1 ht
 have IT := hide (istr_any oa l c w hA hl)
 have PG := hide (fun u (b : Below w.heap.size w u) => programs_any oa l c u (hA.below b) hT hl)
 have CG := hide (fun u (b : Below w.heap.size w u) => channels_any oa l c u (hA.below b) hT hl)
 have PL := prog_len l l.length
 have CL : Hid ((clE l l.length ++ (List.range (mkN l)).flatMap fun (c : Nat) => chE l (c : Int)).length ≤ 9000000) := by
  have a := ce_len l l.length
  have b := chs_len l (mkN l)
  have d := mkN_le l
  have t : mkN l * (2 * l.length) ≤ 2000 * 4000 := Nat.mul_le_mul (by omega) (by omega)
  show (clE l l.length ++ chs l (mkN l)).length ≤ 9000000
  rw [List.length_append]
  omega
 have AS := hide (fun (m : List Ed) (hp : m.Perm (allE l)) hs => allS_of hT hp hs)
 unfold allE at AS
 rw [ht] at IT
 obtain ⟨P, hP⟩ : ∃ P, progE l l.length = P := ⟨_, rfl⟩
 obtain ⟨Q, hQ⟩ : ∃ Q, (clE l l.length ++ (List.range (mkN l)).flatMap fun (c : Nat) => chE l (c : Int)) = Q := ⟨_, rfl⟩
 rw [hP] at PG AS PL
 rw [hQ] at CG AS CL
 obtain ⟨A, hAA⟩ : ∃ A, allS l = A := ⟨_, rfl⟩
 rw [hAA] at AS ⊢
 obtain ⟨M, hM⟩ : ∃ M, l.length = M := ⟨_, rfl⟩
 rw [hM] at IT PG CG PL hl ⊢
 clear hA hM ht hT hP hQ hAA
 go_enter Tryz.func10, Tryz.ntmps10
 go_wp2_with fail
 refine IT.out.mono ?_
 rintro r w1 ⟨rfl, b1⟩
 have B1 := hide b1
 clear b1 IT
 go_wp2_with fail
 refine (PG.out _ B1.out).mono ?_
 rintro r w2 ⟨ea, cp, rfl, o2, b2⟩
 have O2 : Hid (Ow w2 w1.heap.size (.slice ea P.length cp) P) := o2
 have B2 := hide b2
 have BB2 := hide (btr B1.out b2)
 obtain ⟨np, hnp⟩ : ∃ n, P.length = n := ⟨_, rfl⟩
 have NP := hide hnp
 rw [hnp] at O2 ⊢
 clear o2 b2 PG hnp
 go_wp2_with fail
 refine (CG.out _ BB2.out).mono ?_
 rintro r w3 ⟨v3, rfl, o3, b3⟩
 obtain ⟨eb, cq, rfl, -, -⟩ := o3.sl
 have O3 := hide o3
 have B3 := hide b3
 have BB3 := hide (btr BB2.out b3)
 obtain ⟨nq, hnq⟩ : ∃ n, Q.length = n := ⟨_, rfl⟩
 have NQ := hide hnq
 rw [hnq] at O3 ⊢
 clear o3 b3 CG hnq
 have X0 := hide (heap_new w3 (.cells #[.slice ea np cp, .slice eb nq cq] 24))
 have BX := hide (below_alloc w3 (.cells #[.slice ea np cp, .slice eb nq cq] 24))
 have OP : Ow (w3.alloc (.cells #[.slice ea np cp, .slice eb nq cq] 24)) w1.heap.size (.slice ea np cp) P := (O2.out.below B3.out).below BX.out
 have OQ : Ow (w3.alloc (.cells #[.slice ea np cp, .slice eb nq cq] 24)) w2.heap.size (.slice eb nq cq) Q := O3.out.below BX.out
 have CC := hide (concat_any w3.heap.size w1.heap.size w2.heap.size (.slice ea np cp) (.slice eb nq cq) P Q _ (cell_of X0.out 0) (cell_of X0.out 1) OP OQ (by have := CL.out; omega))
 clear OP OQ
 go_wp2_with fail
 refine CC.out.mono ?_
 rintro r w4 ⟨v4, rfl, o4, b4⟩
 have O4 := hide o4
 have B4 := hide (btr BX.out b4)
 have S4 : Hid ((w3.alloc (.cells #[.slice ea np cp, .slice eb nq cq] 24)).heap.size ≤ w4.heap.size) := b4.size
 have ST := hide (sort_any _ v4 (P ++ Q) w4 o4 (by have := CL.out; rw [List.length_append]; omega))
 have BS4 : Hid (w.heap.size ≤ w3.heap.size) := BB3.out.size
 obtain ⟨ez, cz, rfl, -, -⟩ := o4.sl
 obtain ⟨nz, hnz⟩ : ∃ n, (P ++ Q).length = n := ⟨_, rfl⟩
 have NZ := hide hnz
 rw [hnz] at ST ⊢
 clear o4 b4 CC hnz
 go_wp2_with fail
 refine ST.out.mono ?_
 rintro r w5 ⟨rfl, m, hp, hs, hlm, o5, g5⟩
 have RES : Hid (Ow w5 w.heap.size (.slice ez nz cz) A ∧ Below w.heap.size w w5) := by
  have e := AS.out m hp hs
  rw [e] at o5
  have b := own_base O4.out
  rw [NZ.out] at b
  refine ⟨o5.mono (by rw [World.size_alloc]; have := BS4.out; omega), (btr BB3.out B4.out).trans ((grown_below g5 b S4.out).mono (by rw [World.size_alloc]; have := BS4.out; omega))⟩
 clear hp hs hlm o5 g5 ST
 go_wp2_with fail
 go_ret2
 exact ⟨_, rfl, RES.out.1, RES.out.2⟩
end Eg
end Go.Proofs.YtblfimobiibmjaaGreat
namespace Go.Proofs.YtblfimobiibmjaaGreat
open Go.ChangeShapes Go.WideShapes Go.ChangeAt Go.RowKit
namespace Ax
open En Gu Eg Ba
noncomputable def eds (l : List Ev) : List (Int × Int) := (allS l).map fun x => ((x.f : Int), (x.t : Int))
noncomputable def relS (l : List Ev) : Mx.Rws := Mx.sets l.length (fun _ => 0) (eds l)
noncomputable def ahd (l : List Ev) : Mx.Rws := Mx.clo (relS l) l.length
theorem rel_is {l : List Ev} (h : Tok l) : Rel l (relS l) := by
 intro i k hi hk
 unfold relS
 rw [Mx.hs_sets _ _ _ _ _ hi hk]
 simp only [Mx.hs, Nat.zero_testBit, Bool.false_or, List.any_eq_true, decide_eq_true_eq, eds, List.mem_map]
 constructor
 ·rintro ⟨p, ⟨x, hx, rfl⟩, e⟩
  simp only [Prod.mk.injEq] at e
  exact ⟨x, (allS_mem h x).1 hx, by omega, by omega⟩
 ·rintro ⟨x, hx, rfl, rfl⟩
  exact ⟨_, ⟨x, (allS_mem h x).2 hx, rfl⟩, rfl⟩
theorem bd_rel (l : List Ev) : Mx.Bd l.length (relS l) := Mx.Bd.sets _ (Mx.Bd.zero _)
theorem sets_next {n : Nat} {l : List (Int × Int)} {k : Nat} {p : Int × Int} (h : l[k]? = some p) : Mx.sets n (fun _ => 0) (l.take (k + 1)) = Mx.setR n (Mx.sets n (fun _ => 0) (l.take k)) p.1 p.2 := by
 rw [List.take_add_one, h, Mx.sets_append]
 rfl
set_option maxRecDepth 100000 in
set_option maxHeartbeats 1600000 in
theorem eof_no (oa : Option Addr) (l : List Ev) (c : Nat) (w : World) (hA : EsAt w oa l) (hl : l.length ≤ 1000) (ht : tokB l = false) :
 Calls Tryz.prog 50 #[.slice oa l.length c] w fun r w' => r = .returned (.tuple #[.slice none 0 0, .int .i64 4]) ∧ Below w.heap.size w w' := by
 have AL := hide (All_no oa l c w hA (by omega) ht)
 obtain ⟨M, hM⟩ : ∃ M, l.length = M := ⟨_, rfl⟩
 rw [hM] at AL ⊢
 clear hA hM hl ht
 go_enter Tryz.func50, Tryz.ntmps50
 go_wp2_with fail
 refine AL.out.mono ?_
 rintro r w1 ⟨rfl, b1⟩
 have B1 := hide b1
 clear b1 AL
 go_wp2_with fail
 go_ret2
 exact ⟨rfl, B1.out⟩
set_option maxRecDepth 100000 in
set_option maxHeartbeats 1600000 in
theorem eof_yes (oa : Option Addr) (l : List Ev) (c : Nat) (w : World) (hA : EsAt w oa l) (hl : l.length ≤ 1000) (ht : tokB l = true) :
 Calls Tryz.prog 50 #[.slice oa l.length c] w fun r w' => ∃ v, r = .returned (.tuple #[v, .int .i64 0]) ∧ Ow w' w.heap.size v (allS l) ∧ Below w.heap.size w w' := by
 have AL := hide (All_yes oa l c w hA (by omega) ht)
 obtain ⟨M, hM⟩ : ∃ M, l.length = M := ⟨_, rfl⟩
 rw [hM] at AL hl ⊢
 obtain ⟨E, hE⟩ : ∃ E, allS l = E := ⟨_, rfl⟩
 rw [hE] at AL ⊢
 have hl' : ¬ ((M : Int) > 1024) := by omega
 clear hA hM ht hE
 go_enter Tryz.func50, Tryz.ntmps50
 go_wp2_with fail
 refine AL.out.mono ?_
 rintro r w1 ⟨v, rfl, o1, b1⟩
 have B1 := hide b1
 have O1 := hide o1
 obtain ⟨ea, ce, rfl, -, -⟩ := o1.sl
 clear b1 AL o1
 go_wp2_with fail
 go_ret2
 exact ⟨_, rfl, O1.out, B1.out⟩
theorem size_th : (Tryz.prog.info? 83).map (·.size) = some 3 := by kernel_rfl
theorem loadVar_th {w : World} {b : Nat} {c : Array Value} {t : TypeId} (h : w.heap[b]? = some (.cells c t (0, 0))) (hc : c.size = 3) : (loadVar 83 ⟨b, 0, none⟩).run Tryz.prog w = .ok (.agg c) w :=
 run_loadVar_row w b t _ _ _ _ h Tryz.underlying83 rfl (by rw [size_th, hc])
set_option maxRecDepth 100000 in
set_option maxHeartbeats 1600000 in
theorem tof_no (oa : Option Addr) (l : List Ev) (c : Nat) (w : World) (hA : EsAt w oa l) (hl : l.length ≤ 1000) (ht : tokB l = false) :
 Calls Tryz.prog 44 #[.slice oa l.length c] w fun r w' => r = .returned (.tuple #[.agg #[.pointer none, .slice none 0 0, .slice none 0 0], .int .i64 4]) ∧ Below w.heap.size w w' := by
 have BX := hide (below_alloc w (.cells #[.pointer none, .slice none 0 0, .slice none 0 0] 83))
 have NE := hide (eof_no oa l c _ (hA.below BX.out) hl ht)
 have T0 := hide (heap_new w (.cells #[.pointer none, .slice none 0 0, .slice none 0 0] 83))
 have s0 : w.heap.size < (w.alloc (.cells #[.pointer none, .slice none 0 0, .slice none 0 0] 83)).heap.size := by rw [World.size_alloc]; omega
 have S0 := hide s0
 obtain ⟨M, hM⟩ : ∃ M, l.length = M := ⟨_, rfl⟩
 rw [hM] at NE ⊢
 clear hA hM hl ht s0
 go_enter Tryz.func44, Tryz.ntmps44
 go_wp2_with fail
 refine NE.out.mono ?_
 rintro r w1 ⟨rfl, b1⟩
 have B1 := hide (btr BX.out b1)
 have T1 := hide (heap_below T0.out b1)
 have r0 := cell_of T1.out 0
 have r1 := cell_of T1.out 1
 have r2 := cell_of T1.out 2
 have f0 := frozen_of T1.out 0
 have f1 := frozen_of T1.out 1
 have f2 := frozen_of T1.out 2
 simp at r0 r1 r2
 clear b1 NE
 go_wp2_with fail
 have K := (((KB.refl w.heap.size w1).setCell 0 (.pointer none)).setCell 1 (.slice none 0 0)).setCell 2 (.slice none 0 0)
 exact bodyPost_ret (Ba.results_row2 Tryz.results44 _ _ _ _ _ rfl rfl (loadVar_th (Ba.heap_setCell_same (Ba.heap_setCell_same (Ba.heap_setCell_same T1.out (i := 0) (.pointer none)) (i := 1) (.slice none 0 0)) (i := 2) (.slice none 0 0)) rfl)) rfl ⟨rfl, below_kb B1.out K (Nat.le_refl _) B1.out.size⟩
structure TW (w : World) (N M R W b : Nat) (oa : Option Addr) (l : List Ev) : Prop where
 mw : Mx.MW w M R W l.length (ahd l)
 nr : IR w b l.length (nuF l)
 es : EsAt w oa l
 nm : N ≤ M
 nr' : N ≤ R
 nw : N ≤ W
 nb : N ≤ b
theorem TW.below {w w' : World} {N M R W b : Nat} {oa : Option Addr} {l : List Ev} (h : TW w N M R W b oa l) (hb : Below w.heap.size w w') : TW w' N M R W b oa l :=
 ⟨h.mw.below hb, h.nr.below hb, h.es.below hb, h.nm, h.nr', h.nw, h.nb⟩
structure TfI (w1 wr : World) (M R W n : Nat) (P : List (Int × Int)) (iv : Value) (k : Nat) : Prop where
 le : k ≤ P.length
 iv : iv = .int .i64 (k : Int)
 bl : Below w1.heap.size w1 wr
 mw : Mx.MW wr M R W n (Mx.sets n (fun _ => 0) (P.take k))
set_option maxRecDepth 100000 in
set_option maxHeartbeats 3200000 in
theorem tof_yes (oa : Option Addr) (l : List Ev) (c : Nat) (w : World) (hA : EsAt w oa l) (hl : l.length ≤ 1000) (ht : tokB l = true) :
 Calls Tryz.prog 44 #[.slice oa l.length c] w fun r w' => ∃ M R W b, r = .returned (.tuple #[.agg #[.pointer (some ⟨M, 0, none⟩), .slice oa l.length c, .slice (some ⟨b, 0, none⟩) l.length l.length], .int .i64 0]) ∧ TW w' w.heap.size M R W b oa l ∧ Below w.heap.size w w' := by
 have BX := hide (below_alloc w (.cells #[.pointer none, .slice none 0 0, .slice none 0 0] 83))
 have YE := hide (eof_yes oa l c _ (hA.below BX.out) hl ht)
 have T0 := hide (heap_new w (.cells #[.pointer none, .slice none 0 0, .slice none 0 0] 83))
 have s0 : w.heap.size < (w.alloc (.cells #[.pointer none, .slice none 0 0, .slice none 0 0] 83)).heap.size := by rw [World.size_alloc]; omega
 have S0 := hide s0
 have hT := tokB_iff.1 ht
 have NB := hide (fun u (b : Below w.heap.size w u) => numbers_any oa l c u (hA.below b) hT (by omega))
 have HA := hide hA
 obtain ⟨P, hP⟩ : ∃ P, eds l = P := ⟨_, rfl⟩
 have AH : Hid (∀ u M R W, Mx.MW u M R W l.length (Mx.clo (Mx.sets l.length (fun _ => 0) P) l.length) → Mx.MW u M R W l.length (ahd l)) := by
  rw [← hP]
  exact fun _ _ _ _ h => h
 have PE : Hid (P = (allS l).map fun x => ((x.f : Int), (x.t : Int))) := hP.symm
 obtain ⟨E, hE⟩ : ∃ E, allS l = E := ⟨_, rfl⟩
 rw [hE] at YE PE
 obtain ⟨n, hn⟩ : ∃ n, l.length = n := ⟨_, rfl⟩
 have NW := hide (Mx.new_ok n (by omega))
 have HN := hide hn
 rw [hn] at YE NB AH hl ⊢
 have PL : Hid (P.length = E.length) := by rw [PE.out]; exact List.length_map _
 obtain ⟨m, hm⟩ : ∃ m, E.length = m := ⟨_, rfl⟩
 have HM := hide hm
 clear hA hn ht s0 hP hE hm
 go_enter Tryz.func44, Tryz.ntmps44
 go_wp2_with fail
 refine YE.out.mono ?_
 rintro r w1 ⟨v, rfl, o1, b1⟩
 have B1 := hide (btr BX.out b1)
 have T1 := hide (heap_below T0.out b1)
 obtain ⟨ea, ce, rfl, e1, e2⟩ := o1.sl
 have O1 := hide o1
 rw [HM.out] at O1 ⊢
 have hm9 : m ≤ 9223372036854775807 := by rw [HM.out] at e1; unfold maxLen at e2; omega
 clear b1 YE o1 e1 e2
 go_wp2_with fail
 refine (NW.out w1).mono ?_
 rintro r w2 ⟨rfl, m2, b2⟩
 have I0 : Hid (TfI w1 w2 (w1.heap.size + 2) (w1.heap.size + 1) w1.heap.size n P (.int .i64 0) 0) := ⟨Nat.zero_le _, rfl, b2, m2⟩
 have HW : Hid (w1.heap.size ≤ w1.heap.size) := Nat.le_refl _
 have HM1 : Hid (w1.heap.size ≤ w1.heap.size + 2) := by show _ ≤ _; omega
 have HR1 : Hid (w1.heap.size ≤ w1.heap.size + 1) := by show _ ≤ _; omega
 clear m2 b2 NW
 generalize hMM : w1.heap.size + 2 = M at *
 generalize hRR : w1.heap.size + 1 = R at *
 obtain ⟨W, hWW⟩ : ∃ W, w1.heap.size = W := ⟨_, rfl⟩
 have HWW := hide hWW
 rw [show TfI w1 w2 M R w1.heap.size n P (.int .i64 0) 0 = TfI w1 w2 M R W n P (.int .i64 0) 0 by rw [hWW]] at I0
 clear hMM hRR hWW
 go_wp2_with fail
 go_loopw [30] (fun iv wr => ∃ k : Nat, TfI w1 wr M R W n P iv k) (fun iv _ => m - (intOf iv).toNat)
 case atStart => exact ⟨0, I0.out⟩
 case round =>
  obtain ⟨k, I⟩ := hrel
  have hkm : k ≤ m := by have := I.le; rw [PL.out, HM.out] at this; exact this
  obtain rfl := I.iv
  have HI := hide I
  by_cases hlt : k < m
  ·obtain ⟨x, hx⟩ : ∃ x, E[k]? = some x := ⟨_, List.getElem?_eq_getElem (by rw [HM.out]; omega)⟩
   have OW : Ow wr (w.alloc (.cells #[.pointer none, .slice none 0 0, .slice none 0 0] 83)).heap.size (.slice ea m ce) E := O1.out.below I.bl
   rw [← HM.out] at OW
   obtain ⟨g, rfl, q0, q1, q2⟩ := OW.cell hx
   have hlt' : (k : Int) < (m : Int) := by omega
   have HX := hide hx
   have ST := hide (fun u (b : Below wr.heap.size wr u) => Mx.set_any (HI.out.mw.below b) (x.f : Int) (x.t : Int))
   clear I hx OW
   go_wp2_with fail
   have BE := hide (below_alloc wr (.cells #[.int .i64 (x.f : Int), .int .i64 (x.t : Int), .int .i64 (x.r : Int)] 70))
   refine (ST.out _ BE.out).mono ?_
   rintro r w4 ⟨rfl, m4, k4⟩
   have M4 := hide m4
   have K4 := hide k4
   clear m4 k4 ST q0 q1 q2
   go_wp2_with fail
   go_roundw
   case measure => simp [intOf]; omega
   case rel =>
    refine ⟨k + 1, by have := HI.out.le; rw [PL.out, HM.out]; omega, by simp, ?_, ?_⟩
    ·have b := HI.out.bl.trans (BE.out.mono HI.out.bl.size)
     exact below_kb b K4.out (by rw [HWW.out]; exact Nat.le_refl _) b.size
    ·have := M4.out
     rw [sets_next (l := P) (k := k) (p := ((x.f : Int), (x.t : Int))) (by rw [PE.out, List.getElem?_map, HX.out]; rfl)]
     exact this
  ·have dl : decide ((k : Int) < (m : Int)) = false := by simp; omega
   have hk : k = m := by omega
   subst hk
   have mw0 := HI.out.mw
   rw [List.take_of_length_le (by rw [PL.out, HM.out]; exact Nat.le_refl _)] at mw0
   have CL := hide (Mx.close_any mw0)
   clear I hlt mw0
   go_wp2_with fail
   refine CL.out.mono ?_
   rintro r w5 ⟨rfl, m5, k5⟩
   have M5 := hide m5
   have b5 : Below w1.heap.size w1 w5 := below_kb HI.out.bl k5 (by rw [HWW.out]; exact Nat.le_refl _) HI.out.bl.size
   have B5 := hide (B1.out.trans (b5.mono B1.out.size))
   have T5 := hide (heap_below T1.out b5)
   have NN := hide (NB.out w5 B5.out)
   clear m5 k5 b5 CL NB
   go_wp2_with fail
   refine NN.out.mono ?_
   rintro r w6 ⟨b, rfl, n6, hb6, b6⟩
   have M6 := hide (M5.out.below b6)
   have N6 := hide n6
   have B6 := hide (btr B5.out b6)
   have T6 := hide (heap_below T5.out b6)
   have HB6 : Hid (w.heap.size ≤ b) := Nat.le_trans B5.out.size hb6
   have hbT : Hid (b ≠ w.heap.size) := by have := B5.out.size; have := B1.out.size; have := HI.out.bl.size; have := heap_lt T5.out; show _ ≠ _; omega
   have r0 := cell_of T6.out 0
   have r1 := cell_of T6.out 1
   have r2 := cell_of T6.out 2
   have f0 := frozen_of T6.out 0
   have f1 := frozen_of T6.out 1
   have f2 := frozen_of T6.out 2
   simp at r0 r1 r2
   clear n6 b6 NN hb6
   go_wp2_with fail
   have K := (((KB.refl w.heap.size w6).setCell 0 (.pointer (some ⟨M, 0, none⟩))).setCell 1 (.slice oa n c)).setCell 2 (.slice (some ⟨b, 0, none⟩) n n)
   have hw1 : w.heap.size < w1.heap.size := by have := heap_lt T1.out; exact this
   have M7 := AH.out _ _ _ _ (M6.out.kb K (by have := HM1.out; omega) (by have := HR1.out; omega) (by have := HWW.out; omega))
   have B7 := below_kb B6.out K (Nat.le_refl _) B6.out.size
   refine bodyPost_ret (Ba.results_row2 Tryz.results44 _ _ _ _ _ rfl rfl (loadVar_th (Ba.heap_setCell_same (Ba.heap_setCell_same (Ba.heap_setCell_same T6.out (i := 0) (.pointer (some ⟨M, 0, none⟩))) (i := 1) (.slice oa n c)) (i := 2) (.slice (some ⟨b, 0, none⟩) n n)) rfl)) rfl ⟨M, R, W, b, rfl, ⟨by rw [HN.out]; exact M7, ?_, HA.out.below B7, by have := HM1.out; omega, by have := HR1.out; omega, by have := HWW.out; omega, HB6.out⟩, B7⟩
   rw [HN.out]
   exact N6.out.keep (K.block _ N6.out.lt hbT.out)
end Ax
end Go.Proofs.YtblfimobiibmjaaGreat
namespace Go.Proofs.YtblfimobiibmjaaGreat
open Go.ChangeShapes Go.WideShapes Go.ChangeAt Go.RowKit
namespace Mx
open Ba (KB btr heap_lt cell_of frozen_of ret_bool ret_int bdrew bdrew1 heap_new below_alloc heap_below own_below)
def ps (P : Nat → Bool) (n : Nat) : List Int := ((List.range n).filter P).map fun (i : Nat) => (i : Int)
theorem ps_succ (P : Nat → Bool) (n : Nat) : ps P (n + 1) = if P n = true then ps P n ++ [(n : Int)] else ps P n := by
 unfold ps
 rw [List.range_succ, List.filter_append]
 cases h : P n <;> simp [h]
theorem ps_len (P : Nat → Bool) (n : Nat) : (ps P n).length ≤ n := by
 unfold ps
 rw [List.length_map]
 have := List.length_filter_le P (List.range n)
 rw [List.length_range] at this
 exact this
theorem ps_congr {P Q : Nat → Bool} {n : Nat} (h : ∀ k, k < n → P k = Q k) : ps P n = ps Q n := by
 unfold ps
 rw [List.filter_congr fun x hx => h x (List.mem_range.1 hx)]
def ic (l : List Int) : List Value := l.map (Value.int .i64)
theorem ic_app (l m : List Int) : ic (l ++ m) = ic l ++ ic m := by simp [ic]
theorem ic_one (l : List Int) : ∀ u ∈ ic l, u.oneCell' = true := by
 intro u hu
 obtain ⟨b, -, rfl⟩ := List.mem_map.1 hu
 rfl
theorem own_slice {w : World} {base : Nat} {e : TypeId} {size n : Nat} {v : Value} {xs : List Value} (h : w.ownsRow base e size v n xs) : ∃ oa c, v = .slice oa n c := by
 rcases h.2 with ⟨rfl, rfl⟩ | ⟨g, cap, cr, rfl, -⟩
 ·exact ⟨none, 0, rfl⟩
 ·exact ⟨_, _, rfl⟩
set_option maxRecDepth 100000 in
set_option maxHeartbeats 1600000 in
theorem those_any (FN : FuncId) (caps : Array Value) (hn : ∀ (a : Array Value) (u : World), (callFunc FN a).run Tryz.prog u = .ok (.enter FN a) u) (P : Nat → Bool) (p : Option Addr) (n : Nat) (hle : n ≤ 1024) (w : World)
 (SZ0 : ∀ u, Below w.heap.size w u → Calls Tryz.prog 20 #[.pointer p] u fun e w' => e = .returned (.int .i64 (n : Int)) ∧ w' = u)
 (CL0 : ∀ (k : Nat) (u : World), k < n → Below w.heap.size w u → Calls Tryz.prog FN (#[.int .i64 (k : Int)] ++ caps) u fun r w' => r = .returned (.bool (P k)) ∧ Below u.heap.size u w') :
 Calls Tryz.prog 136 #[.pointer p, .func (.func FN) #[] caps] w fun r w' => ∃ v, r = .returned v ∧ w'.ownsRow w.heap.size 3 1 v (ps P n).length (ic (ps P n)) ∧ Below w.heap.size w w' := by
 obtain ⟨i0, hi, hz0, hz1, hz2⟩ := info_parts Ba.info_int
 have INF := hide (And.intro hi (And.intro hz0 (And.intro hz1 hz2)))
 have SZ := hide SZ0
 have CL := hide CL0
 clear SZ0 CL0 hi hz0 hz1 hz2
 go_enter Tryz.func136, Tryz.ntmps136
 go_wp2_with fail
 refine (SZ.out _ (Below.refl _ _)).mono ?_
 rintro e w1 ⟨rfl, e1⟩
 obtain rfl := e1.symm
 go_wp2_with fail
 go_loopw [5, 9] (fun rv i wr => ∃ (v : Value) (k : Nat), k ≤ n ∧ i = .int .i64 k ∧ rv = v ∧ wr.ownsRow w.heap.size 3 1 v (ps P k).length (ic (ps P k)) ∧ Below w.heap.size w wr) (fun _ i _ => n - (intOf i).toNat)
 case atStart => exact ⟨_, 0, Nat.zero_le _, rfl, rfl, World.ownsRow_nil _ _ _ _, Below.refl _ _⟩
 case round =>
  obtain ⟨v, k, hk, rfl, rfl, ho, hb⟩ := hrel
  by_cases hlt : k < n
  ·have hlt' : (k : Int) < (n : Int) := by omega
   have SU := hide (ps_succ P k)
   have hpl := ps_len P k
   have HB := hide hb
   have OW := hide ho
   have CLK := hide (CL.out k wr hlt hb)
   clear hb ho
   obtain ⟨X, hX⟩ : ∃ X, X = ps P k := ⟨_, rfl⟩
   rw [← hX] at SU hpl OW
   clear hX
   obtain ⟨oa, c, rfl⟩ := own_slice OW.out
   cases hP : P k
   ·have EX : Hid (ps P (k + 1) = X) := by show _ = _; rw [SU.out, hP]; simp
    rw [hP] at CLK
    clear hP
    go_wp2_with fail
    refine CLK.out.mono ?_
    rintro e z2 ⟨rfl, k2⟩
    have HB2 := hide (btr HB.out k2)
    have O3 : Hid (z2.ownsRow w.heap.size 3 1 (.slice oa X.length c) (ps P (k + 1)).length (ic (ps P (k + 1)))) := by
     show World.ownsRow _ _ _ _ _ _ _
     rw [EX.out]
     exact own_below OW.out k2
    clear k2
    go_wp2_with fail
    go_roundw
    case rel =>
     first
      | exact ⟨_, k + 1, by omega, by go_num, rfl, O3.out, HB2.out⟩
      | exact ⟨k + 1, by omega, by go_num, O3.out, HB2.out⟩
    case measure => simp [intOf]; omega
   ·have EX : Hid (ps P (k + 1) = X ++ [(k : Int)]) := by show _ = _; rw [SU.out, hP]; simp
    rw [hP] at CLK
    clear hP
    go_wp2_with fail
    refine CLK.out.mono ?_
    rintro e z2 ⟨rfl, k2⟩
    have HB2 := hide (btr HB.out k2)
    have OW2 := hide (own_below OW.out k2)
    have BY := below_alloc z2 (.cells #[.int .i64 (k : Int)] 3)
    have OW3 := hide (own_below OW2.out BY)
    have HB3 := hide (btr HB2.out BY)
    have SRC := hide (cell_one_new z2 (.int .i64 (k : Int)) 3)
    clear BY OW2 HB2 k2
    go_wp2_with (at_builtin; refine wpList_append_own _ rfl _ _ 67 rfl w.heap.size 3 i0 (.int .i64 0) 1 8 Tryz.underlying67 INF.out.1 INF.out.2.1 INF.out.2.2.1 INF.out.2.2.2 rfl (by decide) _ _ _ rfl OW3.out ⟨z2.heap.size, 0, none⟩ 1 1 [.int .i64 (k : Int)] rfl rfl ?c1 ?c2 ?c3 ?c4 ?c5 ?_)
    case c1 => exact SRC.out
    case c2 => exact ic_one [(k : Int)]
    case c3 => unfold maxLen; omega
    case c4 => omega
    case c5 => exact HB3.out.size
    intro v' w3 ho hg3 _
    have B3 : Hid (Below w.heap.size w w3) := HB3.out.grown hg3 HB3.out.size (fun x hx => (OW3.out.lt x hx).1)
    have O3 : Hid (w3.ownsRow w.heap.size 3 1 v' (ps P (k + 1)).length (ic (ps P (k + 1)))) := by
     show World.ownsRow _ _ _ _ _ _ _
     rw [EX.out, ic_app, List.length_append]
     exact ho
    clear ho hg3
    go_wp2_with fail
    go_roundw
    case rel =>
     first
      | exact ⟨v', k + 1, by omega, by go_num, rfl, O3.out, B3.out⟩
      | ((repeat apply Exists.intro); exact ⟨⟨v', k + 1, by omega, by go_num, rfl, O3.out, B3.out⟩, rfl⟩)
    case measure => simp [intOf]; omega
  ·have hlt' : ¬ ((k : Int) < (n : Int)) := by omega
   obtain rfl : k = n := by omega
   obtain ⟨oa, c, rfl⟩ := own_slice ho
   have HO := hide ho
   have HB := hide hb
   clear ho hb
   go_wp2_with fail
   go_ret
   exact ⟨_, rfl, HO.out, HB.out⟩
def hsI (n : Nat) (r : Rws) (i k : Int) : Bool := inB n i k && hs r i.toNat k.toNat
theorem has_any {w : World} {M R W n : Nat} {r : Rws} (m : MW w M R W n r) (i k : Int) :
 Calls Tryz.prog 21 #[.pointer (some ⟨M, 0, none⟩), .int .i64 i, .int .i64 k] w fun e w' => e = .returned (.bool (hsI n r i k)) ∧ ∃ q, w' = w.drewN q := by
 cases h : inB n i k
 ·refine (has_out m i k h).mono ?_
  rintro e w1 ⟨rfl, q⟩
  exact ⟨by simp [hsI, h], q⟩
 ·have hq := (inB_iff n i k).1 h
  obtain ⟨a, rfl⟩ := Int.eq_ofNat_of_zero_le hq.1
  obtain ⟨b, rfl⟩ := Int.eq_ofNat_of_zero_le hq.2.1
  refine (has_in m a b (by omega) (by omega)).mono ?_
  rintro e w1 ⟨rfl, q⟩
  exact ⟨by simp [hsI, h], q⟩
def PO (w : World) (p : Option Addr) (n : Nat) (r : Rws) : Prop := n ≤ 1024 ∧ ((p = none ∧ n = 0) ∨ ∃ M R W, p = some ⟨M, 0, none⟩ ∧ MW w M R W n r)
theorem PO.below {w w' : World} {p : Option Addr} {n : Nat} {r : Rws} (h : PO w p n r) (b : Below w.heap.size w w') : PO w' p n r := by
 obtain ⟨h0, h | ⟨M, R, W, rfl, m⟩⟩ := h
 ·exact ⟨h0, .inl h⟩
 ·exact ⟨h0, .inr ⟨M, R, W, rfl, m.below b⟩⟩
theorem PO.size {w : World} {p : Option Addr} {n : Nat} {r : Rws} (h : PO w p n r) : Calls Tryz.prog 20 #[.pointer p] w fun e w' => e = .returned (.int .i64 (n : Int)) ∧ w' = w := by
 obtain ⟨h0, ⟨rfl, rfl⟩ | ⟨M, R, W, rfl, m⟩⟩ := h
 ·exact size_nil w
 ·exact size_any m
theorem PO.has {w : World} {p : Option Addr} {n : Nat} {r : Rws} (h : PO w p n r) (i k : Int) : Calls Tryz.prog 21 #[.pointer p, .int .i64 i, .int .i64 k] w fun e w' => e = .returned (.bool (hsI n r i k)) ∧ ∃ q, w' = w.drewN q := by
 obtain ⟨h0, ⟨rfl, rfl⟩ | ⟨M, R, W, rfl, m⟩⟩ := h
 ·have : hsI 0 r i k = false := by
   have : inB 0 i k = false := by
    cases e : inB 0 i k
    ·rfl
    ·have := (inB_iff 0 i k).1 e; omega
   simp [hsI, this]
  rw [this]
  exact has_nil w i k
 ·exact has_any m i k
set_option maxHeartbeats 800000 in
theorem col1_any {u : World} {p : Option Addr} {n : Nat} {r : Rws} (h : PO u p n r) (A B : Nat) (i k : Int) (hA : u.cell? ⟨A, 0, none⟩ = some (.pointer p)) (hB : u.cell? ⟨B, 0, none⟩ = some (.int .i64 i)) :
 Calls Tryz.prog 137 #[.int .i64 k, .pointer (some ⟨A, 0, none⟩), .pointer (some ⟨B, 0, none⟩)] u fun e w' => e = .returned (.bool (hsI n r k i)) ∧ Below u.heap.size u w' := by
 have HA := hide (h.has k i)
 generalize hsI n r k i = b at *
 clear h
 go_enter Tryz.func137, Tryz.ntmps137
 go_wp2_with fail
 refine HA.out.mono ?_
 rintro e w1 ⟨rfl, q, rfl⟩
 go_wp2_with fail
 go_ret
 exact ⟨rfl, bdrew _ _⟩
theorem cellB {w w' : World} {a : Addr} {v : Value} (h : w.cell? a = some v) (b : Below w.heap.size w w') : w'.cell? a = some v := (b.cell (World.block_lt_of_cell? w _ h)).trans h
theorem cell_new1 (w : World) (v : Value) (t : TypeId) : (w.alloc (.cells #[v] t)).cell? ⟨w.heap.size, 0, none⟩ = some v := by rw [cell_of (heap_new _ _)]; rfl
set_option maxHeartbeats 800000 in
theorem col_any {w : World} {p : Option Addr} {n : Nat} {r : Rws} (h : PO w p n r) (i : Int) :
 Calls Tryz.prog 87 #[.pointer p, .int .i64 i] w fun e w' => ∃ oa c, e = .returned (.slice oa (ps (fun k => hsI n r (k : Int) i) n).length c) ∧ Ba.At w' oa (ps (fun k => hsI n r (k : Int) i) n) ∧ Below w.heap.size w w' := by
 have b1 := below_alloc w (.cells #[.pointer p] 39)
 have b2 := below_alloc (w.alloc (.cells #[.pointer p] 39)) (.cells #[.int .i64 i] 3)
 have TH := hide (those_any 137 #[.pointer (some ⟨w.heap.size, 0, none⟩), .pointer (some ⟨w.heap.size + 1, 0, none⟩)] (fun a u => by kernel_rfl) (fun k => hsI n r (k : Int) i) p n h.1 ((w.alloc (.cells #[.pointer p] 39)).alloc (.cells #[.int .i64 i] 3))
  (fun u b => ((h.below b1).below (btr b2 b)).size)
  (fun k u _ b => col1_any ((h.below b1).below (btr b2 b)) w.heap.size (w.heap.size + 1) i (k : Int) (cellB (cellB (cell_new1 w _ _) b2) b) (cellB (by have := cell_new1 (w.alloc (.cells #[.pointer p] 39)) (.int .i64 i) 3; rw [World.size_alloc] at this; exact this) b)))
 have HB := hide (btr b1 b2)
 clear h b1 b2
 generalize ps (fun k => hsI n r (k : Int) i) n = X at *
 go_enter Tryz.func87, Tryz.ntmps87
 go_wp2_with fail
 refine TH.out.mono ?_
 rintro e w1 ⟨v, rfl, o1, c1⟩
 obtain ⟨oa, c, rfl, A1⟩ := Ba.owns_at o1
 have AA := hide A1
 have BB := hide (btr HB.out c1)
 clear A1 o1 c1
 go_wp2_with fail
 go_ret
 exact ⟨oa, c, rfl, AA.out, BB.out⟩
end Mx
end Go.Proofs.YtblfimobiibmjaaGreat
namespace Go.Proofs.YtblfimobiibmjaaGreat
open Go.ChangeShapes Go.WideShapes Go.ChangeAt Go.RowKit
namespace Ax
open En Gu Eg Ba
noncomputable def hA (l : List Ev) : Nat → Nat → Bool := Mx.hs (ahd l)
theorem hA_rel {l : List Ev} : hA l = Mx.hs (Mx.clo (relS l) l.length) := rfl
def stp (l : List Ev) (g : Int) (a : Int) (k : Int) : Int := if gof l k.toNat = g then max a (num l k.toNat g : Int) else a
theorem most_fold (A : Nat → Nat → Bool) (l : List Ev) (i : Nat) (g : Int) : ∀ m, (mostF A l i g m : Int) = (Mx.ps (fun k => A k i) m).foldl (stp l g) 0
 | 0 => rfl
 | m + 1 => by
   have ih := most_fold A l i g m
   rw [Mx.ps_succ]
   simp only [mostF]
   by_cases hA : A m i = true
   ·rw [if_pos hA, List.foldl_append, ← ih]
    simp only [List.foldl_cons, List.foldl_nil, stp, Int.toNat_natCast]
    by_cases hg : gof l m = g
    ·rw [if_pos ⟨hg, hA⟩, if_pos hg]; omega
    ·rw [if_neg (fun z => hg z.1), if_neg hg]
   ·rw [if_neg hA, if_neg (fun z => hA z.2)]; exact ih
theorem ps_mem {P : Nat → Bool} {n j : Nat} {x : Int} (h : (Mx.ps P n)[j]? = some x) : ∃ k : Nat, x = (k : Int) ∧ k < n ∧ P k = true := by
 have := List.mem_of_getElem? h
 unfold Mx.ps at this
 rw [List.mem_map] at this
 obtain ⟨k, hk, rfl⟩ := this
 rw [List.mem_filter, List.mem_range] at hk
 exact ⟨k, rfl, hk.1, hk.2⟩
theorem fold_next {α β : Type} (f : β → α → β) (z : β) {l : List α} {j : Nat} {x : α} (h : l[j]? = some x) : (l.take (j + 1)).foldl f z = f ((l.take j).foldl f z) x := by
 rw [List.take_add_one, h, List.foldl_append]
 rfl
theorem hsI_in {l : List Ev} {r : Mx.Rws} {i k : Nat} (hi : i < l.length) (hk : k < l.length) : Mx.hsI l.length r (k : Int) (i : Int) = Mx.hs r k i := by
 unfold Mx.hsI
 rw [(Mx.inB_iff _ _ _).2 ⟨by omega, by omega, by omega, by omega⟩]
 simp
theorem num_le (l : List Ev) (i : Nat) (g : Int) : num l i g ≤ l.length + 1 := by
 unfold num
 have := List.countP_le_length (p := fun x => decide (x.g = g) && tl x) (l := l.take i)
 rw [List.length_take] at this
 omega
theorem stp_rng (l : List Ev) (g : Int) : ∀ (X : List Int) (a : Int), 0 ≤ a ∧ a ≤ l.length + 1 → 0 ≤ X.foldl (stp l g) a ∧ X.foldl (stp l g) a ≤ l.length + 1
 | [], a, h => h
 | x :: X, a, h => stp_rng l g X _ (by
   unfold stp
   have := num_le l x.toNat g
   split <;> omega)
set_option maxRecDepth 100000 in
set_option maxHeartbeats 3200000 in
theorem knows_any (w : World) (N M R W b : Nat) (oa : Option Addr) (l : List Ev) (c i : Nat) (g : Int) (T : TW w N M R W b oa l) (h : Tok l) (hl : l.length ≤ 1000) (hi : i < l.length) (hv : live l i = true) :
 Calls Tryz.prog 53 #[(.agg #[.pointer (some ⟨M, 0, none⟩), .slice oa l.length c, .slice (some ⟨b, 0, none⟩) l.length l.length]), .int .i64 (i : Int), .int .i64 g] w fun r w' => r = .returned (.int .i64 (knF (hA l) l i g : Int)) ∧ Below w.heap.size w w' := by
 obtain ⟨e, he⟩ := get_lt hi
 obtain ⟨b1, o1, rfl, -⟩ := T.es i e he
 have GE := hide (gof_at he)
 obtain ⟨n, hn⟩ : ∃ n, l.length = n := ⟨_, rfl⟩
 have HN := hide hn
 have T0 := hide T
 have H := hide h
 have HVL := hide hv
 have p1 := (T.es.read he).2.1
 have q1 := (T.nr.read hi).1
 rw [show nuF l i = (num l i (gof l i) : Int) by unfold nuF; rw [if_pos hv], gof_at he] at q1
 have BX := hide (below_alloc w (.cells #[.pointer (some ⟨M, 0, none⟩), .slice (some ⟨b1, o1, none⟩) n c, .slice (some ⟨b, 0, none⟩) n n] 83))
 have X0 := hide (heap_new w (.cells #[.pointer (some ⟨M, 0, none⟩), .slice (some ⟨b1, o1, none⟩) n c, .slice (some ⟨b, 0, none⟩) n n] 83))
 have PO : Hid (∀ u, Below w.heap.size w u → Mx.PO u (some ⟨M, 0, none⟩) n (ahd l)) := fun u bb => ⟨by omega, .inr ⟨M, R, W, rfl, by have := T.mw.below bb; rwa [hn] at this⟩⟩
 have hi0 : (0 : Int) ≤ (i : Int) := by omega
 have hi1 : (i : Int) < (n : Int) := by omega
 rw [hn] at hl hi ⊢
 by_cases hg : e.g = g
 ·have kn : Hid ((knF (hA l) l i g : Int) = (num l i e.g : Int)) := by
   show _ = _
   unfold knF
   rw [if_pos (by rw [gof_at he]; exact hg), hg]
  have dg : (e.g == g) = true := by simp [hg]
  generalize hz : (num l i e.g : Int) = z at q1 kn
  rw [kn.out]
  have p1' := Mx.cellB p1 BX.out
  have q1' := Mx.cellB q1 BX.out
  have s0 := cell_of X0.out 0
  have s1 := cell_of X0.out 1
  have s2 := cell_of X0.out 2
  simp at s0 s1 s2
  clear T h he hv hn kn hg hz
  go_enter Tryz.func53, Tryz.ntmps53
  go_wp2_with fail
  go_ret
  exact ⟨rfl, BX.out⟩
 ·have dg : (e.g == g) = false := by simp [hg]
  obtain ⟨X, hX⟩ : ∃ X, Mx.ps (fun k => hA l k i) n = X := ⟨_, rfl⟩
  have kn : Hid ((knF (hA l) l i g : Int) = X.foldl (stp l g) 0) := by
   show _ = _
   unfold knF
   rw [if_neg (by rw [gof_at he]; exact hg), most_fold, hn, hX]
  have HX := hide hX
  have CL := hide (fun u (bb : Below w.heap.size w u) => Mx.col_any (PO.out u bb) (i : Int))
  rw [Mx.ps_congr (Q := fun k => hA l k i) (n := n) (fun k hk => by rw [← hn]; exact hsI_in (by omega) (by omega)), hX] at CL
  have LV : Hid (∀ (j : Nat) x, X[j]? = some x → ∃ (k : Nat) (y : Ev), x = (k : Int) ∧ k < n ∧ l[k]? = some y ∧ nuF l k = (num l k y.g : Int)) := by
   intro j x hj
   rw [← hX] at hj
   obtain ⟨k, rfl, hk, hA'⟩ := ps_mem hj
   obtain ⟨y, hy⟩ := get_lt (l := l) (i := k) (by omega)
   refine ⟨k, y, rfl, hk, hy, ?_⟩
   have lk := ((rel_is h).live h (i := k) (k := i) (by omega) (by omega) hA').1
   unfold nuF
   rw [if_pos lk, gof_at hy]
  have XL : X.length ≤ n := by rw [← hX]; exact Mx.ps_len _ _
  obtain ⟨Z, hZ⟩ : ∃ Z, X.foldl (stp l g) 0 = Z := ⟨_, rfl⟩
  have HZ := hide hZ
  rw [kn.out, hZ]
  have p1' := Mx.cellB p1 BX.out
  have s0 := cell_of X0.out 0
  have s1 := cell_of X0.out 1
  simp at s0 s1
  clear hZ
  clear T h he hv hn hg hX q1
  go_enter Tryz.func53, Tryz.ntmps53
  go_wp2_with fail
  refine (CL.out _ BX.out).mono ?_
  rintro r w1 ⟨ox, cx, rfl, ax, b1'⟩
  have B1 := hide (btr BX.out b1')
  have X1 := hide (heap_below X0.out b1')
  have AX := hide ax
  obtain ⟨m, hm⟩ : ∃ m, X.length = m := ⟨_, rfl⟩
  have HM := hide hm
  rw [hm] at XL ⊢
  have T1 := hide (T0.out.below B1.out)
  clear ax b1' CL hm s0 s1 p1' p1
  go_wp2_with fail
  go_loopw [7, 28] (fun mv iv wr => ∃ j : Nat, j ≤ m ∧ iv = .int .i64 (j : Int) ∧ mv = .int .i64 ((X.take j).foldl (stp l g) 0) ∧ Below w1.heap.size w1 wr) (fun _ iv _ => m - (intOf iv).toNat)
  case atStart => exact ⟨0, by omega, rfl, rfl, Below.refl _ _⟩
  case round =>
   obtain ⟨j, hj, rfl, rfl, bl⟩ := hrel
   have BL := hide bl
   have RN := stp_rng l g (X.take j) 0 (by omega)
   rw [HN.out] at RN
   by_cases hlt : j < m
   ·obtain ⟨x, hx⟩ : ∃ x, X[j]? = some x := ⟨_, List.getElem?_eq_getElem (by rw [HM.out]; exact hlt)⟩
    obtain ⟨k, y, rfl, hk, hy, hnu⟩ := LV.out j x hx
    have NX := hide (fold_next (stp l g) 0 hx)
    have T2 := hide (T1.out.below bl)
    obtain ⟨bx, ox', rfl, cx0⟩ := AX.out j (by rw [HM.out]; exact hlt)
    have px := (bl.cell (World.block_lt_of_cell? w1 _ cx0)).trans cx0
    rw [show Ba.nth X j = (k : Int) by simp [Ba.nth, hx]] at px
    have pe := (T2.out.es.read hy).2.1
    have qe := (T2.out.nr.read (k := k) (by rw [HN.out]; exact hk)).1
    rw [hnu] at qe
    have X2 := hide (heap_below X1.out bl)
    have s1 := cell_of X2.out 1
    have s2 := cell_of X2.out 2
    simp at s1 s2
    have hlt' : (j : Int) < (m : Int) := by omega
    have k0 : (0 : Int) ≤ (k : Int) := by omega
    have k1 : (k : Int) < (n : Int) := by omega
    obtain ⟨a, ha⟩ : ∃ a, (X.take j).foldl (stp l g) 0 = a := ⟨_, rfl⟩
    have HAA := hide ha
    rw [ha] at RN NX ⊢
    by_cases hg : y.g = g
    ·have dg2 : (y.g == g) = true := by simp [hg]
     have st : Hid (stp l g a (k : Int) = max a (num l k y.g : Int)) := by
      show _ = _
      unfold stp
      rw [Int.toNat_natCast, if_pos (by rw [gof_at hy]; exact hg), hg]
     obtain ⟨z, hz⟩ : ∃ z : Int, (num l k y.g : Int) = z := ⟨_, rfl⟩
     rw [hz] at qe st
     have hmx : ∀ (ty : TypeId) (u : World), (Builtin.max_ #[3, 3] ty #[.int .i64 a, .int .i64 z]).run Tryz.prog u = .ok (.int .i64 (max a z)) u := fun ty u => run_max_int u ty a z
     clear hx hy hnu cx0 hg hz ha bl
     go_wp2_with fail
     go_roundw
     case measure => simp [intOf]; omega
     case rel => exact ⟨j + 1, by omega, by simp, by rw [NX.out, st.out], BL.out⟩
    ·have dg2 : (y.g == g) = false := by simp [hg]
     have st : Hid (stp l g a (k : Int) = a) := by
      show _ = _
      unfold stp
      rw [Int.toNat_natCast, if_neg (by rw [gof_at hy]; exact hg)]
     clear hx hy hnu cx0 hg ha bl
     go_wp2_with fail
     go_roundw
     case measure => simp [intOf]; omega
     case rel => exact ⟨j + 1, by omega, by simp, by rw [NX.out, st.out], BL.out⟩
   ·have hj' : j = m := by omega
    subst hj'
    have e : Hid (X.take j = X) := by show _ = _; rw [← HM.out]; exact List.take_length
    rw [e.out, HZ.out]
    clear bl hlt RN
    go_wp2_with fail
    go_ret
    exact ⟨rfl, btr B1.out BL.out⟩
def askB (l : List Ev) (i : Int) : Bool := decide (0 ≤ i) && decide (i < l.length) && live l i.toNat
set_option maxRecDepth 100000 in
set_option maxHeartbeats 1600000 in
theorem ask_any (oa : Option Addr) (l : List Ev) (c : Nat) (i : Int) (w : World) (hE : EsAt w oa l) :
 Calls Tryz.prog 51 #[.slice oa l.length c, .int .i64 i] w fun r w' => r = .returned (.bool (askB l i)) ∧ Below w.heap.size w w' := by
 obtain ⟨n, hn⟩ : ∃ n, l.length = n := ⟨_, rfl⟩
 unfold askB
 by_cases h0 : 0 ≤ i
 ·by_cases h1 : i < (n : Int)
  ·obtain ⟨k, rfl⟩ : ∃ k : Nat, i = (k : Int) := ⟨i.toNat, by omega⟩
   obtain ⟨e, he⟩ := get_lt (l := l) (i := k) (by omega)
   obtain ⟨b1, o1, rfl, -⟩ := hE k e he
   have p0 := (hE.read he).1
   have d0 : decide ((0 : Int) ≤ (k : Int)) = true := by simp
   have d1 : decide ((k : Int) < (n : Int)) = true := by simp; omega
   have lv : live l ((k : Int)).toNat = (e.k != 13) := by
    rw [Int.toNat_natCast]
    unfold live
    rw [he, bne, Bool.eq_iff_iff]
    simp
   rw [hn, d0, d1, lv, Bool.true_and, Bool.true_and]
   generalize hk : (e.k != 13) = q
   clear hE he hn lv
   go_enter Tryz.func51, Tryz.ntmps51
   go_wp2_with fail
   go_ret
   exact ⟨rfl, Below.refl _ _⟩
  ·have d0 : decide ((0 : Int) ≤ i) = true := by simp [h0]
   have d1 : decide (i < (n : Int)) = false := by simp; omega
   rw [hn, d0, d1]
   simp only [Bool.and_false, Bool.false_and]
   clear hE hn
   go_enter Tryz.func51, Tryz.ntmps51
   go_wp2_with fail
   go_ret
   exact ⟨rfl, Below.refl _ _⟩
 ·have d0 : decide ((0 : Int) ≤ i) = false := by simp [h0]
  rw [d0]
  simp only [Bool.false_and]
  generalize l.length = n at *
  clear hE
  go_enter Tryz.func51, Tryz.ntmps51
  go_wp2_with fail
  go_ret
  exact ⟨rfl, Below.refl _ _⟩
end Ax
end Go.Proofs.YtblfimobiibmjaaGreat
namespace Go.Proofs.YtblfimobiibmjaaGreat
open Go.ChangeShapes Go.WideShapes Go.ChangeAt Go.RowKit
namespace Ax
open En Gu Eg Ba
def nc (l : List Nat) : List Value := l.map fun (x : Nat) => Value.int .i64 (x : Int)
theorem nc_app (l m : List Nat) : nc (l ++ m) = nc l ++ nc m := by simp [nc]
theorem nc_one (l : List Nat) : ∀ u ∈ nc l, u.oneCell' = true := by
 intro u hu
 unfold nc at hu
 rw [List.mem_map] at hu
 obtain ⟨x, -, rfl⟩ := hu
 rfl
theorem nc_at {l : List Nat} {j x : Nat} (h : l[j]? = some x) : (nc l)[j]? = some (.int .i64 (x : Int)) := by simp [nc, h]
def Rn (w : World) (B : Nat) (v : Value) (l : List Nat) : Prop := w.ownsRow B 3 1 v l.length (nc l)
theorem Rn.sl {w : World} {B : Nat} {v : Value} {l : List Nat} (h : Rn w B v l) : ∃ oa c, v = .slice oa l.length c ∧ l.length ≤ c ∧ c ≤ maxLen := by
 rcases h.2 with ⟨rfl, h0⟩ | ⟨g, cap, cur, rfl, -, -, h1, h2, -⟩
 ·exact ⟨none, 0, by rw [h0], by omega, Nat.zero_le _⟩
 ·exact ⟨_, _, rfl, h1, h2⟩
theorem Rn.cell {w : World} {B : Nat} {oa : Option Addr} {c k x : Nat} {l : List Nat} (h : Rn w B (.slice oa l.length c) l) (hk : l[k]? = some x) : ∃ g, oa = some ⟨g, 0, none⟩ ∧ w.cell? ⟨g, k, none⟩ = some (.int .i64 (x : Int)) := by
 obtain ⟨g, rfl, -, -, hc⟩ := Eg.own_cells h (by have := (List.getElem?_eq_some_iff.1 hk).1; omega)
 exact ⟨g, rfl, hc _ _ (nc_at hk)⟩
theorem Rn.below {w w' : World} {B : Nat} {v : Value} {l : List Nat} (h : Rn w B v l) (hb : Below w.heap.size w w') : Rn w' B v l := Eg.own_below h hb
theorem Rn.mono {w : World} {B B' : Nat} {v : Value} {l : List Nat} (h : Rn w B v l) (hb : B' ≤ B) : Rn w B' v l := by
 refine ⟨h.1, ?_⟩
 rcases h.2 with q | ⟨g, cap, cur, q1, q2, q3⟩
 ·exact .inl q
 ·exact .inr ⟨g, cap, cur, q1, by omega, q3⟩
theorem Rn.nil (w : World) (B : Nat) : Rn w B (.slice none 0 0) [] := ⟨by simp [nc], .inl ⟨rfl, rfl⟩⟩
theorem info_i0 : (Tryz.prog.info? 3).map (fun i => (i.zero, i.size, i.bytes)) = some (some (.int .i64 0), 1, 8) := by kernel_rfl
theorem app_n (w : World) (B : Nat) (v : Value) (l fs : List Nat) (n : Nat) (hn : n = l.length) (hown : Rn w B v l) (a : Addr) (m cc : Nat) (hm : m = fs.length) (hnews : ∀ j u, (nc fs)[j]? = some u → w.cell? (a.add j) = some u) (hl : n + m ≤ 100000000) (hb : B ≤ w.heap.size) :
 ∃ ea' c' w', (Builtin.append_ #[67, 67] 67 #[v, .slice (some a) m cc]).run Tryz.prog w = .ok (.slice ea' (n + m) c') w' ∧ Rn w' B (.slice ea' (n + m) c') (l ++ fs) ∧ w.grownBy w' v.ownBlock ∧ Below B w w' := by
 subst hn
 obtain ⟨i0, hi, hz, hs, hby⟩ := info_ex info_i0
 obtain ⟨v', w', hr, ho, hg, _, _⟩ := run_append_own_at (P := Tryz.prog) w B 67 67 3 i0 _ 1 8 Tryz.underlying67 hi hz hs hby rfl (by decide) _ _ _ hown a m cc (nc fs) (by simp [nc, hm]) hnews (nc_one _) (by unfold maxLen; omega) (by omega) hb
 rw [← nc_app] at ho
 obtain ⟨ea', c', rfl⟩ := Eg.own_sl ho
 refine ⟨ea', c', w', hr, ?_, hg, Eg.grown_below hg (Eg.own_base hown) hb⟩
 unfold Rn
 rw [List.length_append, ← hm]
 exact ho
set_option maxHeartbeats 1600000 in
theorem isa_any (e : Ev) (w : World) : Calls Tryz.prog 88 #[evv e] w fun r w' => r = .returned (.bool (decide (e.k = 9) || decide (e.k = 10))) ∧ Below w.heap.size w w' := by
 unfold evv evc
 obtain ⟨k, g, c, a, v, m, s, o⟩ := e
 simp only
 have X0 := hide (heap_new w (.cells #[.int .i64 k, .int .i64 g, .int .i64 c, .int .i64 a, .int .i64 v, .int .i64 m, .bool s, .bool o] 50))
 have BX := hide (below_alloc w (.cells #[.int .i64 k, .int .i64 g, .int .i64 c, .int .i64 a, .int .i64 v, .int .i64 m, .bool s, .bool o] 50))
 have s0 := cell_of X0.out 0
 simp at s0
 by_cases h9 : k = 9
 ·have d : (k == 9) = true := by simp [h9]
  have r1 : decide (k = 9) = true := by simp [h9]
  rw [r1, Bool.true_or]
  clear h9 r1
  go_enter Tryz.func88, Tryz.ntmps88
  go_wp2_with fail
  go_ret
  exact ⟨rfl, BX.out⟩
 ·have d : (k == 9) = false := by simp [h9]
  have r1 : decide (k = 9) = false := by simp [h9]
  have r2 : decide (k = 10) = (k == 10) := by rw [Bool.eq_iff_iff]; simp
  rw [r1, Bool.false_or, r2]
  clear h9 r1 r2
  go_enter Tryz.func88, Tryz.ntmps88
  go_wp2_with fail
  go_ret
  exact ⟨rfl, BX.out⟩
theorem mw_has {w : World} {M R W : Nat} {l : List Ev} (T : Mx.MW w M R W l.length (ahd l)) {i k : Nat} (hi : i < l.length) (hk : k < l.length) :
 Calls Tryz.prog 21 #[.pointer (some ⟨M, 0, none⟩), .int .i64 (i : Int), .int .i64 (k : Int)] w fun e w' => e = .returned (.bool (hA l i k)) ∧ ∃ q, w' = w.drewN q := by
 refine (Mx.has_any T (i : Int) (k : Int)).mono ?_
 rintro e w' ⟨rfl, q⟩
 exact ⟨by rw [hsI_in hk hi]; rfl, q⟩
theorem hA_in {w : World} {N M R W b : Nat} {oa : Option Addr} {l : List Ev} (T : TW w N M R W b oa l) {i k : Nat} (hi : i < l.length) (hk : k < l.length) :
 Calls Tryz.prog 21 #[.pointer (some ⟨M, 0, none⟩), .int .i64 (i : Int), .int .i64 (k : Int)] w fun e w' => e = .returned (.bool (hA l i k)) ∧ ∃ q, w' = w.drewN q := mw_has T.mw hi hk
set_option maxRecDepth 100000 in
set_option maxHeartbeats 3200000 in
theorem race_any (w : World) (N M R W b : Nat) (oa : Option Addr) (l : List Ev) (c p q : Nat) (T : TW w N M R W b oa l) (hp : p < l.length) (hq : q < l.length) :
 Calls Tryz.prog 89 #[(.agg #[.pointer (some ⟨M, 0, none⟩), .slice oa l.length c, .slice (some ⟨b, 0, none⟩) l.length l.length]), .int .i64 (p : Int), .int .i64 (q : Int)] w fun r w' => r = .returned (.bool (raceF (hA l) l p q)) ∧ Below w.heap.size w w' := by
 obtain ⟨x, hx⟩ := get_lt hp
 obtain ⟨y, hy⟩ := get_lt hq
 obtain ⟨b1, o1, rfl, -⟩ := T.es p x hx
 have RF : Hid (raceF (hA l) l p q = ((decide (x.k = 10) || decide (y.k = 10)) && decide (x.g ≠ y.g) && !hA l p q && !hA l q p)) := by
  show _ = _
  unfold raceF
  rw [hx, hy]
 have H1 := hide (fun u (bb : Below w.heap.size w u) => hA_in (T.below bb) hp hq)
 have H2 := hide (fun u (bb : Below w.heap.size w u) => hA_in (T.below bb) hq hp)
 obtain ⟨n, hn⟩ : ∃ n, l.length = n := ⟨_, rfl⟩
 obtain ⟨a0, a1, a2, a3, a4, a5, a6, a7⟩ := T.es.read hx
 obtain ⟨c0, c1, c2, c3, c4, c5, c6, c7⟩ := T.es.read hy
 rw [hn] at hp hq ⊢
 have BX := hide (below_alloc w (.cells #[.pointer (some ⟨M, 0, none⟩), .slice (some ⟨b1, o1, none⟩) n c, .slice (some ⟨b, 0, none⟩) n n] 83))
 have X0 := hide (heap_new w (.cells #[.pointer (some ⟨M, 0, none⟩), .slice (some ⟨b1, o1, none⟩) n c, .slice (some ⟨b, 0, none⟩) n n] 83))
 obtain ⟨kx, gx, cx, ax, vx, mx, sx, ox⟩ := x
 obtain ⟨ky, gy, cy, ay, vy, my, sy, oy⟩ := y
 simp only at a0 a1 a2 a3 a4 a5 a6 a7 c0 c1 c2 c3 c4 c5 c6 c7
 rw [RF.out]
 simp only
 obtain ⟨h1, hh1⟩ : ∃ z, hA l p q = z := ⟨_, rfl⟩
 obtain ⟨h2, hh2⟩ : ∃ z, hA l q p = z := ⟨_, rfl⟩
 rw [hh1] at H1 ⊢
 rw [hh2] at H2 ⊢
 have d1 : decide (kx = 10) = (kx == 10) := by rw [Bool.eq_iff_iff]; simp
 have d2 : decide (ky = 10) = (ky == 10) := by rw [Bool.eq_iff_iff]; simp
 have d3 : decide (gx ≠ gy) = (gx != gy) := by rw [Bool.eq_iff_iff]; simp
 rw [d1, d2, d3]
 have hp0 : (0 : Int) ≤ (p : Int) := by omega
 have hp1 : (p : Int) < (n : Int) := by omega
 have hq0 : (0 : Int) ≤ (q : Int) := by omega
 have hq1 : (q : Int) < (n : Int) := by omega
 clear T hx hy hn RF hh1 hh2 d1 d2 d3 hp hq
 generalize hW : w.alloc (.cells #[.pointer (some ⟨M, 0, none⟩), .slice (some ⟨b1, o1, none⟩) n c, .slice (some ⟨b, 0, none⟩) n n] 83) = W at *
 have s0 := cell_of X0.out 0
 have s1 := cell_of X0.out 1
 simp at s0 s1
 have p0 := Mx.cellB a0 BX.out
 have p1 := Mx.cellB a1 BX.out
 have p2 := Mx.cellB a2 BX.out
 have p3 := Mx.cellB a3 BX.out
 have p4 := Mx.cellB a4 BX.out
 have p5 := Mx.cellB a5 BX.out
 have p6 := Mx.cellB a6 BX.out
 have p7 := Mx.cellB a7 BX.out
 have q0 := Mx.cellB c0 BX.out
 have q1 := Mx.cellB c1 BX.out
 have q2 := Mx.cellB c2 BX.out
 have q3 := Mx.cellB c3 BX.out
 have q4 := Mx.cellB c4 BX.out
 have q5 := Mx.cellB c5 BX.out
 have q6 := Mx.cellB c6 BX.out
 have q7 := Mx.cellB c7 BX.out
 clear a0 a1 a2 a3 a4 a5 a6 a7 c0 c1 c2 c3 c4 c5 c6 c7
 go_enter Tryz.func89, Tryz.ntmps89
 go_upto_region 1 with fail
 go_region_held3 (fun w' => w'.cell? ⟨w.heap.size, 1, none⟩ = some (.slice (some ⟨b1, o1, none⟩) n c) ∧ w'.cell? ⟨b1, o1 + p * 8, none⟩ = some (.int .i64 kx) ∧ w'.cell? ⟨b1, o1 + p * 8 + 1, none⟩ = some (.int .i64 gx) ∧ w'.cell? ⟨b1, o1 + p * 8 + 2, none⟩ = some (.int .i64 cx) ∧ w'.cell? ⟨b1, o1 + p * 8 + 3, none⟩ = some (.int .i64 ax) ∧ w'.cell? ⟨b1, o1 + p * 8 + 4, none⟩ = some (.int .i64 vx) ∧ w'.cell? ⟨b1, o1 + p * 8 + 5, none⟩ = some (.int .i64 mx) ∧ w'.cell? ⟨b1, o1 + p * 8 + 6, none⟩ = some (.bool sx) ∧ w'.cell? ⟨b1, o1 + p * 8 + 7, none⟩ = some (.bool ox) ∧ w'.cell? ⟨b1, o1 + q * 8, none⟩ = some (.int .i64 ky) ∧ w'.cell? ⟨b1, o1 + q * 8 + 1, none⟩ = some (.int .i64 gy) ∧ w'.cell? ⟨b1, o1 + q * 8 + 2, none⟩ = some (.int .i64 cy) ∧ w'.cell? ⟨b1, o1 + q * 8 + 3, none⟩ = some (.int .i64 ay) ∧ w'.cell? ⟨b1, o1 + q * 8 + 4, none⟩ = some (.int .i64 vy) ∧ w'.cell? ⟨b1, o1 + q * 8 + 5, none⟩ = some (.int .i64 my) ∧ w'.cell? ⟨b1, o1 + q * 8 + 6, none⟩ = some (.bool sy) ∧ w'.cell? ⟨b1, o1 + q * 8 + 7, none⟩ = some (.bool oy))
  ((go_keep; done))
  (fail)
 all_goals clear p0 p1 p2 p3 p4 p5 p6 p7 q0 q1 q2 q3 q4 q5 q6 q7
 all_goals
  first
   | (have BU := hide (btr (below_alloc W (.cells #[.int .i64 kx, .int .i64 gx, .int .i64 cx, .int .i64 ax, .int .i64 vx, .int .i64 mx, .bool sx, .bool ox] 50)) (btr (below_alloc _ (.cells #[.int .i64 ky, .int .i64 gy, .int .i64 cy, .int .i64 ay, .int .i64 vy, .int .i64 my, .bool sy, .bool oy] 50)) (bdrew1 _)))
      have ZX := hide (heap_below (heap_new W (.cells #[.int .i64 kx, .int .i64 gx, .int .i64 cx, .int .i64 ax, .int .i64 vx, .int .i64 mx, .bool sx, .bool ox] 50)) (btr (below_alloc _ (.cells #[.int .i64 ky, .int .i64 gy, .int .i64 cy, .int .i64 ay, .int .i64 vy, .int .i64 my, .bool sy, .bool oy] 50)) (bdrew1 _)))
      have ZY := hide (heap_below (En.heap_new2 W (.cells #[.int .i64 kx, .int .i64 gx, .int .i64 cx, .int .i64 ax, .int .i64 vx, .int .i64 mx, .bool sx, .bool ox] 50) (.cells #[.int .i64 ky, .int .i64 gy, .int .i64 cy, .int .i64 ay, .int .i64 vy, .int .i64 my, .bool sy, .bool oy] 50)) (bdrew1 _))
      obtain ⟨U, hU⟩ : ∃ U, ((W.alloc (.cells #[.int .i64 kx, .int .i64 gx, .int .i64 cx, .int .i64 ax, .int .i64 vx, .int .i64 mx, .bool sx, .bool ox] 50)).alloc (.cells #[.int .i64 ky, .int .i64 gy, .int .i64 cy, .int .i64 ay, .int .i64 vy, .int .i64 my, .bool sy, .bool oy] 50)).drew = U := ⟨_, rfl⟩
      rw [hU] at BU ZX ZY ⊢
      have t0 : U.cell? ⟨w.heap.size, 0, none⟩ = some (.pointer (some ⟨M, 0, none⟩)) := cell_of (heap_below X0.out BU.out) 0
      have BV := hide (btr BX.out BU.out)
      clear hU BU
      generalize hA8 : W.heap.size + 1 = A8 at *
      generalize hA7 : W.heap.size = A7 at *)
   | (have BU := hide (btr (below_alloc W (.cells #[.int .i64 ky, .int .i64 gy, .int .i64 cy, .int .i64 ay, .int .i64 vy, .int .i64 my, .bool sy, .bool oy] 50)) (btr (below_alloc _ (.cells #[.int .i64 kx, .int .i64 gx, .int .i64 cx, .int .i64 ax, .int .i64 vx, .int .i64 mx, .bool sx, .bool ox] 50)) (bdrew1 _)))
      have ZY := hide (heap_below (heap_new W (.cells #[.int .i64 ky, .int .i64 gy, .int .i64 cy, .int .i64 ay, .int .i64 vy, .int .i64 my, .bool sy, .bool oy] 50)) (btr (below_alloc _ (.cells #[.int .i64 kx, .int .i64 gx, .int .i64 cx, .int .i64 ax, .int .i64 vx, .int .i64 mx, .bool sx, .bool ox] 50)) (bdrew1 _)))
      have ZX := hide (heap_below (En.heap_new2 W (.cells #[.int .i64 ky, .int .i64 gy, .int .i64 cy, .int .i64 ay, .int .i64 vy, .int .i64 my, .bool sy, .bool oy] 50) (.cells #[.int .i64 kx, .int .i64 gx, .int .i64 cx, .int .i64 ax, .int .i64 vx, .int .i64 mx, .bool sx, .bool ox] 50)) (bdrew1 _))
      obtain ⟨U, hU⟩ : ∃ U, ((W.alloc (.cells #[.int .i64 ky, .int .i64 gy, .int .i64 cy, .int .i64 ay, .int .i64 vy, .int .i64 my, .bool sy, .bool oy] 50)).alloc (.cells #[.int .i64 kx, .int .i64 gx, .int .i64 cx, .int .i64 ax, .int .i64 vx, .int .i64 mx, .bool sx, .bool ox] 50)).drew = U := ⟨_, rfl⟩
      rw [hU] at BU ZX ZY ⊢
      have t0 : U.cell? ⟨w.heap.size, 0, none⟩ = some (.pointer (some ⟨M, 0, none⟩)) := cell_of (heap_below X0.out BU.out) 0
      have BV := hide (btr BX.out BU.out)
      clear hU BU
      generalize hA7 : W.heap.size + 1 = A7 at *
      generalize hA8 : W.heap.size = A8 at *)
  clear hA7 hA8 hW s0 s1
  have x0 := cell_of ZX.out 0
  have x1 := cell_of ZX.out 1
  have y0 := cell_of ZY.out 0
  have y1 := cell_of ZY.out 1
  simp at x0 x1 y0 y1
  cases e1 : (kx == 10)
  ·cases e2 : (ky == 10)
   ·go_wp2_with fail
    go_ret
    exact ⟨by simp [e1, e2], BV.out⟩
   ·cases e3 : (gx != gy)
    ·go_wp2_with fail
     go_ret
     exact ⟨by simp [e1, e2, e3], BV.out⟩
    ·cases e4 : h1
     ·rw [e4] at H1
      go_wp2_with fail
      refine (H1.out _ BV.out).mono ?_
      rintro r u ⟨rfl, n1, rfl⟩
      have t0' : (U.drewN n1).cell? ⟨w.heap.size, 0, none⟩ = some (.pointer (some ⟨M, 0, none⟩)) := t0
      have BD := hide (btr BV.out (bdrew U n1))
      have H22 := hide (H2.out _ BD.out)
      go_wp2_with fail
      refine H22.out.mono ?_
      rintro r u ⟨rfl, n2, rfl⟩
      go_wp2_with fail
      go_ret
      exact ⟨by simp [e1, e2, e3, e4], btr BV.out (bdrew U (n1 + n2))⟩
     ·rw [e4] at H1
      go_wp2_with fail
      refine (H1.out _ BV.out).mono ?_
      rintro r u ⟨rfl, n1, rfl⟩
      go_wp2_with fail
      go_ret
      exact ⟨by simp [e1, e2, e3, e4], btr BV.out (bdrew U n1)⟩
  ·cases e3 : (gx != gy)
   ·go_wp2_with fail
    go_ret
    exact ⟨by simp [e1, e3], BV.out⟩
   ·cases e4 : h1
    ·rw [e4] at H1
     go_wp2_with fail
     refine (H1.out _ BV.out).mono ?_
     rintro r u ⟨rfl, n1, rfl⟩
     have t0' : (U.drewN n1).cell? ⟨w.heap.size, 0, none⟩ = some (.pointer (some ⟨M, 0, none⟩)) := t0
     have BD := hide (btr BV.out (bdrew U n1))
     have H22 := hide (H2.out _ BD.out)
     go_wp2_with fail
     refine H22.out.mono ?_
     rintro r u ⟨rfl, n2, rfl⟩
     go_wp2_with fail
     go_ret
     exact ⟨by simp [e1, e3, e4], btr BV.out (bdrew U (n1 + n2))⟩
    ·rw [e4] at H1
     go_wp2_with fail
     refine (H1.out _ BV.out).mono ?_
     rintro r u ⟨rfl, n1, rfl⟩
     go_wp2_with fail
     go_ret
     exact ⟨by simp [e1, e3, e4], btr BV.out (bdrew U n1)⟩
end Ax
end Go.Proofs.YtblfimobiibmjaaGreat
namespace Go.Proofs.YtblfimobiibmjaaGreat
open Go.ChangeShapes Go.WideShapes Go.ChangeAt Go.RowKit
namespace Ax
open En Gu Eg Ba
def isAcc (l : List Ev) (cell : Int) (a : Nat) : Bool := match l[a]? with
 | some x => acc x cell
 | none => false
def accL (l : List Ev) (cell : Int) (k : Nat) : List Nat := (List.range k).filter (isAcc l cell)
theorem acc_next (l : List Ev) (cell : Int) (k : Nat) : accL l cell (k + 1) = accL l cell k ++ if isAcc l cell k then [k] else [] := by
 unfold accL
 rw [List.range_succ, List.filter_append]
 congr 1
 simp only [List.filter_cons, List.filter_nil]
theorem hit_acc (A : Nat → Nat → Bool) (l : List Ev) (cell : Int) (b : Nat) : ∀ m, hitF A l cell b m = (accL l cell m).any fun a => raceF A l a b
 | 0 => rfl
 | m + 1 => by
   rw [hit_succ, hit_acc A l cell b m, acc_next, List.any_append]
   congr 1
   show (isAcc l cell m && raceF A l m b) = _
   cases isAcc l cell m <;> simp
theorem at_acc (A : Nat → Nat → Bool) (l : List Ev) (cell : Int) (b : Nat) : atF A l cell b = (isAcc l cell b && (accL l cell b).any fun a => raceF A l a b) := by
 rw [← hit_acc]
 rfl
theorem fir_more {A : Nat → Nat → Bool} {l : List Ev} {cell : Int} {m a : Nat} (h : firF A l cell m = some a) : ∀ d, firF A l cell (m + d) = some a
 | 0 => h
 | d + 1 => by
   rw [← Nat.add_assoc, fir_succ, fir_more h d]
   rfl
def fr1 (o : Option Nat) : Int := match o with
 | some a => (a : Int)
 | none => 0
structure FrI (W wr : World) (A : Nat → Nat → Bool) (l : List Ev) (cell : Int) (ev iv : Value) (k : Nat) : Prop where
 le : k ≤ l.length
 iv : iv = .int .i64 (k : Int)
 bl : Below W.heap.size W wr
 ow : Rn wr W.heap.size ev (accL l cell k)
 no : firF A l cell k = none
theorem accL_len (l : List Ev) (cell : Int) (k : Nat) : (accL l cell k).length ≤ k := by
 unfold accL
 exact Nat.le_trans (List.length_filter_le _ _) (by simp)
theorem accL_lt {l : List Ev} {cell : Int} {k x : Nat} (h : x ∈ accL l cell k) : x < k := by
 unfold accL at h
 rw [List.mem_filter, List.mem_range] at h
 exact h.1
set_option maxRecDepth 100000 in
set_option maxHeartbeats 3200000 in
theorem firstRace_any (w : World) (N M R W0 b : Nat) (oa : Option Addr) (l : List Ev) (c : Nat) (cell : Int) (T : TW w N M R W0 b oa l) (hl : l.length ≤ 1000) :
 Calls Tryz.prog 55 #[(.agg #[.pointer (some ⟨M, 0, none⟩), .slice oa l.length c, .slice (some ⟨b, 0, none⟩) l.length l.length]), .int .i64 cell] w fun r w' => r = .returned (.tuple #[.int .i64 (fr1 (firF (hA l) l cell l.length)), .bool (firF (hA l) l cell l.length).isSome]) ∧ Below w.heap.size w w' := by
 have RA := hide (fun (p q : Nat) (u : World) (bb : Below w.heap.size w u) (hp : p < l.length) (hq : q < l.length) => race_any u N M R W0 b oa l c p q (T.below bb) hp hq)
 have TT := hide T
 obtain ⟨n, hn⟩ : ∃ n, l.length = n := ⟨_, rfl⟩
 have HN := hide hn
 rw [hn] at RA hl ⊢
 have BX := hide (below_alloc w (.cells #[.pointer (some ⟨M, 0, none⟩), .slice oa n c, .slice (some ⟨b, 0, none⟩) n n] 83))
 have X0 := hide (heap_new w (.cells #[.pointer (some ⟨M, 0, none⟩), .slice oa n c, .slice (some ⟨b, 0, none⟩) n n] 83))
 generalize hW : w.alloc (.cells #[.pointer (some ⟨M, 0, none⟩), .slice oa n c, .slice (some ⟨b, 0, none⟩) n n] 83) = W at *
 have s1 := cell_of X0.out 1
 simp at s1
 clear T hn
 go_enter Tryz.func55, Tryz.ntmps55
 go_wp2_with fail
 clear hW s1
 go_loopw [6, 14] (fun ev iv wr => ∃ k : Nat, FrI W wr (hA l) l cell ev iv k) (fun _ iv _ => n - (intOf iv).toNat)
 case atStart => exact ⟨0, by omega, rfl, Below.refl _ _, Rn.nil _ _, rfl⟩
 case round =>
  obtain ⟨k, I⟩ := hrel
  have hkn : k ≤ n := by rw [← HN.out]; exact I.le
  obtain rfl := I.iv
  have HI := hide I
  obtain ⟨ea, ce, rfl, -, -⟩ := I.ow.sl
  have AL := accL_len l cell k
  obtain ⟨m, hm⟩ : ∃ m, (accL l cell k).length = m := ⟨_, rfl⟩
  have HM := hide hm
  rw [hm] at HI AL ⊢
  by_cases hlt : k < n
  ·obtain ⟨e, he⟩ : ∃ e, l[k]? = some e := ⟨_, List.getElem?_eq_getElem (by rw [HN.out]; omega)⟩
   have BB := hide (btr BX.out HI.out.bl)
   have EA := hide (TT.out.es.below BB.out)
   obtain ⟨b2, o2, rfl, -⟩ := EA.out k e he
   obtain ⟨p0, p1, p2, p3, p4, p5, p6, p7⟩ := EA.out.read he
   have hlt' : (k : Int) < (n : Int) := by omega
   have HE := hide he
   have AC : Hid (isAcc l cell k = ((decide (e.k = 9) || decide (e.k = 10)) && decide (e.v = cell))) := by
    show _ = _
    unfold isAcc
    rw [he]
    rfl
   obtain ⟨q, hq⟩ : ∃ q, (decide (e.k = 9) || decide (e.k = 10)) = q := ⟨_, rfl⟩
   have HQ := hide hq
   clear I he hm EA hq
   go_upto_region 5 with fail
   have E0 := hide (heap_new wr (.cells #[.int .i64 e.k, .int .i64 e.g, .int .i64 e.c, .int .i64 e.a, .int .i64 e.v, .int .i64 e.m, .bool e.s, .bool e.o] 50))
   have BE := hide (below_alloc wr (.cells #[.int .i64 e.k, .int .i64 e.g, .int .i64 e.c, .int .i64 e.a, .int .i64 e.v, .int .i64 e.m, .bool e.s, .bool e.o] 50))
   obtain ⟨w6, hw6⟩ : ∃ x, wr.alloc (.cells #[.int .i64 e.k, .int .i64 e.g, .int .i64 e.c, .int .i64 e.a, .int .i64 e.v, .int .i64 e.m, .bool e.s, .bool e.o] 50) = x := ⟨_, rfl⟩
   rw [hw6] at E0 BE ⊢
   clear hw6 p0 p1 p2 p3 p4 p5 p6 p7
   have e0 := cell_of E0.out 0
   have e1 := cell_of E0.out 1
   have e2 := cell_of E0.out 2
   have e3 := cell_of E0.out 3
   have e4 := cell_of E0.out 4
   have e5 := cell_of E0.out 5
   have e6 := cell_of E0.out 6
   have e7 := cell_of E0.out 7
   simp at e0 e1 e2 e3 e4 e5 e6 e7
   have IS := hide (isa_any e w6)
   unfold evv evc at IS
   rw [HQ.out] at IS AC
   go_wp2_with fail
   refine IS.out.mono ?_
   rintro r w7 ⟨rfl, b7⟩
   have B7 := hide (btr HI.out.bl (btr BE.out b7))
   have e4' := (b7.cell (p := ⟨wr.heap.size, 4, none⟩) (World.block_lt_of_cell? w6 _ e4)).trans e4
   have O7 := hide (HI.out.ow.below (btr BE.out b7))
   clear e0 e1 e2 e3 e4 e5 e6 e7 b7 IS
   have SK : isAcc l cell k = false → ∀ u, Below w7.heap.size w7 u → FrI W u (hA l) l cell (.slice ea m ce) (.int .i64 ((k : Int) + 1)) (k + 1) := by
    intro hf u bu
    refine ⟨by rw [HN.out]; omega, by simp, btr B7.out bu, ?_, ?_⟩
    ·rw [acc_next, hf]
     simp only [Bool.false_eq_true, if_false, List.append_nil]
     exact O7.out.below bu
    ·rw [fir_succ, HI.out.no, at_acc, hf]
     rfl
   have SK := hide SK
   cases q with
   | false =>
     have AC2 : Hid (isAcc l cell k = false) := by show _ = _; rw [AC.out]; rfl
     go_wp2_with fail
     go_roundw
     case measure => simp [intOf]; omega
     case rel => exact ⟨k + 1, SK.out AC2.out _ (Below.refl _ _)⟩
   | true =>
     by_cases hv : e.v = cell
     ·have dv : (e.v != cell) = false := by simp [hv]
      have AC2 : Hid (isAcc l cell k = true) := by show _ = _; rw [AC.out]; simp [hv]
      have T7 := hide (heap_below X0.out B7.out)
      clear hv SK
      go_wp2_with fail
      go_loopw [30] (fun iv wr2 => ∃ j : Nat, j ≤ m ∧ iv = .int .i64 (j : Int) ∧ Below w7.heap.size w7 wr2 ∧ ∀ (i x : Nat), i < j → (accL l cell k)[i]? = some x → raceF (hA l) l x k = false) (fun iv _ => m - (intOf iv).toNat)
      case atStart => exact ⟨0, by omega, rfl, Below.refl _ _, fun i x h => by omega⟩
      case round =>
       rename World => w8
       obtain ⟨j, hj, rfl, b8, no⟩ := hrel
       have B8 := hide b8
       have NO := hide no
       have T8 := hide (heap_below T7.out b8)
       have t0 := cell_of T8.out 0
       have t1 := cell_of T8.out 1
       have t2 := cell_of T8.out 2
       simp at t0 t1 t2
       have O8 := hide (O7.out.below b8)
       by_cases hj2 : j < m
       ·obtain ⟨x, hx⟩ : ∃ x, (accL l cell k)[j]? = some x := ⟨_, List.getElem?_eq_getElem (by rw [HM.out]; omega)⟩
        have xk := accL_lt (List.mem_of_getElem? hx)
        have o8 := O8.out
        rw [← HM.out] at o8
        obtain ⟨g, rfl, y0⟩ := o8.cell hx
        have hj' : (j : Int) < (m : Int) := by omega
        have RR := hide (RA.out x k w8 (btr BX.out (btr B7.out b8)) (by omega) (by omega))
        have HX := hide hx
        obtain ⟨z, hz⟩ : ∃ z, raceF (hA l) l x k = z := ⟨_, rfl⟩
        rw [hz] at RR
        have HZ := hide hz
        clear hx hz o8 b8 no
        go_wp2_with fail
        refine RR.out.mono ?_
        rintro r w9 ⟨rfl, b9⟩
        have B9 := hide (btr B8.out b9)
        clear b9 RR t0 t1 t2 y0
        cases z with
        | true =>
          have FR : Hid (firF (hA l) l cell n = some k) := by
           have h1 : firF (hA l) l cell (k + 1) = some k := by
            rw [fir_succ, HI.out.no, at_acc, AC2.out, Bool.true_and]
            rw [show ((accL l cell k).any fun a => raceF (hA l) l a k) = true from List.any_eq_true.2 ⟨x, List.mem_of_getElem? HX.out, HZ.out⟩]
            rfl
           have := fir_more h1 (n - (k + 1))
           rw [show k + 1 + (n - (k + 1)) = n by omega] at this
           exact this
          go_wp2_with fail
          go_ret2
          exact ⟨by rw [FR.out]; rfl, btr BX.out (btr B7.out B9.out)⟩
        | false =>
          go_wp2_with fail
          go_roundw
          case measure => simp [intOf]; omega
          case rel =>
           refine ⟨j + 1, by omega, by simp, B9.out, fun i y hi hy => ?_⟩
           by_cases e : i = j
           ·subst e
            rw [HX.out] at hy
            cases hy
            exact HZ.out
           ·exact NO.out i y (by omega) hy
       ·obtain rfl : j = m := by omega
        have NH : Hid (firF (hA l) l cell (k + 1) = none) := by
         show _ = _
         rw [fir_succ, HI.out.no, at_acc]
         rw [show ((accL l cell k).any fun a => raceF (hA l) l a k) = false from List.any_eq_false.2 fun a ha => by
          obtain ⟨i, hi⟩ := List.getElem?_of_mem ha
          have := (List.getElem?_eq_some_iff.1 hi).1
          rw [HM.out] at this
          rw [NO.out i a (by omega) hi]
          simp]
         simp
        have BY := hide (below_alloc w8 (.cells #[.int .i64 (k : Int)] 3))
        have SRC : Hid (∀ (j : Nat) u, (nc [k])[j]? = some u → (w8.alloc (.cells #[.int .i64 (k : Int)] 3)).cell? ((⟨w8.heap.size, 0, none⟩ : Addr).add j) = some u) := by
         intro j u hu
         match j, hu with
         | 0, hu => cases hu; exact Mx.cell_new1 w8 _ _
         | j + 1, hu => simp [nc] at hu
        obtain ⟨ea', c', w9, hap, o9, -, b9⟩ := app_n _ W.heap.size _ (accL l cell k) [k] j HM.out.symm (O8.out.below BY.out) ⟨w8.heap.size, 0, none⟩ 1 1 rfl SRC.out (by omega) (by have := B7.out.size; have := b8.size; have := BY.out.size; omega)
        have O9 := hide o9
        have B9 : Hid (Below W.heap.size W w9) := (btr (btr B7.out b8) BY.out).trans b9
        clear o9 b9 b8 no t0 t1 t2 hj2
        go_wp2_with (at_builtin; refine Lib.wpList_append_run _ (by rfl) _ _ _ _ (by rfl) _ _ (by rfl) (by rfl) _ _ hap ?_)
        go_roundw
        case measure => simp [intOf]; omega
        case rel =>
         refine ⟨k + 1, by rw [HN.out]; omega, by simp, B9.out, ?_, NH.out⟩
         rw [acc_next, AC2.out, if_pos rfl]
         exact O9.out
     ·have dv : (e.v != cell) = true := by simp [hv]
      have AC2 : Hid (isAcc l cell k = false) := by show _ = _; rw [AC.out]; simp [hv]
      clear hv
      go_wp2_with fail
      go_roundw
      case measure => simp [intOf]; omega
      case rel => exact ⟨k + 1, SK.out AC2.out _ (Below.refl _ _)⟩
  ·have dl : decide ((k : Int) < (n : Int)) = false := by simp; omega
   have hk : k = n := by omega
   subst hk
   have NO : Hid (firF (hA l) l cell k = none) := HI.out.no
   clear I hlt hm
   go_wp2_with fail
   go_ret2
   exact ⟨by rw [NO.out]; rfl, btr BX.out HI.out.bl⟩
end Ax
end Go.Proofs.YtblfimobiibmjaaGreat
namespace Go.Proofs.YtblfimobiibmjaaGreat
open Go.ChangeShapes Go.WideShapes Go.ChangeAt Go.RowKit
namespace Ax
open En Gu Eg Ba
set_option maxRecDepth 100000 in
set_option maxHeartbeats 1600000 in
theorem ahead_no (oa : Option Addr) (l : List Ev) (c : Nat) (w : World) (hA : EsAt w oa l) (hl : l.length ≤ 1000) (ht : tokB l = false) :
 Calls Tryz.prog 18 #[.slice oa l.length c] w fun r w' => r = .returned (.tuple #[.pointer none, .int .i64 4]) ∧ Below w.heap.size w w' := by
 have TF := hide (tof_no oa l c w hA hl ht)
 generalize l.length = n at *
 clear hA hl ht
 go_enter Tryz.func18, Tryz.ntmps18
 go_wp2_with fail
 refine TF.out.mono ?_
 rintro r w1 ⟨rfl, b1⟩
 have B1 := hide (btr b1 (below_alloc w1 (.cells #[.pointer none, .slice none 0 0, .slice none 0 0] 83)))
 clear b1 TF
 go_wp2_with fail
 go_ret2
 exact ⟨rfl, B1.out⟩
set_option maxRecDepth 100000 in
set_option maxHeartbeats 1600000 in
theorem ahead_yes (oa : Option Addr) (l : List Ev) (c : Nat) (w : World) (hA : EsAt w oa l) (hl : l.length ≤ 1000) (ht : tokB l = true) :
 Calls Tryz.prog 18 #[.slice oa l.length c] w fun r w' => ∃ M R W, r = .returned (.tuple #[.pointer (some ⟨M, 0, none⟩), .int .i64 0]) ∧ Mx.MW w' M R W l.length (ahd l) ∧ Below w.heap.size w w' := by
 have TF := hide (tof_yes oa l c w hA hl ht)
 obtain ⟨n, hn⟩ : ∃ n, l.length = n := ⟨_, rfl⟩
 have HN := hide hn
 rw [hn] at TF ⊢
 clear hA hl ht hn
 go_enter Tryz.func18, Tryz.ntmps18
 go_wp2_with fail
 refine TF.out.mono ?_
 rintro r w1 ⟨M, R, W, b, rfl, t1, b1⟩
 have B1 := hide (btr b1 (below_alloc w1 (.cells #[.pointer (some ⟨M, 0, none⟩), .slice oa n c, .slice (some ⟨b, 0, none⟩) n n] 83)))
 have M1 := t1.mw.below (below_alloc w1 (.cells #[.pointer (some ⟨M, 0, none⟩), .slice oa n c, .slice (some ⟨b, 0, none⟩) n n] 83))
 rw [HN.out] at M1
 have M1 := hide M1
 clear b1 TF t1
 go_wp2_with fail
 go_ret2
 exact ⟨M, R, W, rfl, M1.out, B1.out⟩
set_option maxRecDepth 100000 in
set_option maxHeartbeats 1600000 in
theorem number_no (oa : Option Addr) (l : List Ev) (c : Nat) (i : Int) (w : World) (hA : EsAt w oa l) (hl : l.length ≤ 1000) (ht : tokB l = false) :
 Calls Tryz.prog 23 #[.slice oa l.length c, .int .i64 i] w fun r w' => r = .returned (.tuple #[.int .i64 0, .int .i64 4]) ∧ Below w.heap.size w w' := by
 have TF := hide (eof_no oa l c w hA hl ht)
 generalize l.length = n at *
 clear hA hl ht
 go_enter Tryz.func23, Tryz.ntmps23
 go_wp2_with fail
 refine TF.out.mono ?_
 rintro r w1 ⟨rfl, b1⟩
 have B1 := hide b1
 clear b1 TF
 go_wp2_with fail
 go_ret2
 exact ⟨rfl, B1.out⟩
def numA (l : List Ev) (i : Int) : Int := if askB l i then nuF l i.toNat else 0
def askE (l : List Ev) (i : Int) : Int := if askB l i then 0 else 1
theorem ask_in {l : List Ev} {i : Int} (h : askB l i = true) : ∃ k : Nat, i = (k : Int) ∧ k < l.length ∧ live l k = true := by
 unfold askB at h
 simp at h
 exact ⟨i.toNat, by omega, by omega, h.2⟩
set_option maxRecDepth 100000 in
set_option maxHeartbeats 1600000 in
theorem number_yes (oa : Option Addr) (l : List Ev) (c : Nat) (i : Int) (w : World) (hA : EsAt w oa l) (hl : l.length ≤ 1000) (ht : tokB l = true) :
 Calls Tryz.prog 23 #[.slice oa l.length c, .int .i64 i] w fun r w' => r = .returned (.tuple #[.int .i64 (numA l i), .int .i64 (askE l i)]) ∧ Below w.heap.size w w' := by
 have TF := hide (eof_yes oa l c w hA hl ht)
 have hT := tokB_iff.1 ht
 have AK := hide (fun u (bb : Below w.heap.size w u) => ask_any oa l c i u (hA.below bb))
 have NB := hide (fun u (b : Below w.heap.size w u) => numbers_any oa l c u (hA.below b) hT (by omega))
 unfold numA askE
 obtain ⟨q, hq⟩ : ∃ q, askB l i = q := ⟨_, rfl⟩
 have HQ := hide hq
 rw [hq] at AK ⊢
 obtain ⟨n, hn⟩ : ∃ n, l.length = n := ⟨_, rfl⟩
 have HN := hide hn
 rw [hn] at TF AK NB hl ⊢
 clear hA ht hn hq
 cases q with
 | false =>
   go_enter Tryz.func23, Tryz.ntmps23
   go_wp2_with fail
   refine TF.out.mono ?_
   rintro r w1 ⟨v, rfl, o1, b1⟩
   have B1 := hide b1
   obtain ⟨ea, ce, rfl, -, -⟩ := o1.sl
   have A1 := hide (AK.out _ b1)
   clear b1 TF o1
   go_wp2_with fail
   refine A1.out.mono ?_
   rintro r w2 ⟨rfl, b2⟩
   have B2 := hide (btr B1.out b2)
   clear b2
   go_wp2_with fail
   go_ret2
   exact ⟨rfl, B2.out⟩
 | true =>
   obtain ⟨k, rfl, hk, hv⟩ := ask_in HQ.out
   have hk0 : (0 : Int) ≤ (k : Int) := by omega
   have hk1 : (k : Int) < (n : Int) := by rw [← HN.out]; omega
   simp only [if_true, Int.toNat_natCast]
   obtain ⟨z, hz⟩ : ∃ z, nuF l k = z := ⟨_, rfl⟩
   have HZ := hide hz
   rw [hz]
   clear hz hv
   go_enter Tryz.func23, Tryz.ntmps23
   go_wp2_with fail
   refine TF.out.mono ?_
   rintro r w1 ⟨v, rfl, o1, b1⟩
   have B1 := hide b1
   obtain ⟨ea, ce, rfl, -, -⟩ := o1.sl
   have A1 := hide (AK.out _ b1)
   clear b1 TF o1
   go_wp2_with fail
   refine A1.out.mono ?_
   rintro r w2 ⟨rfl, b2⟩
   have B2 := hide (btr B1.out b2)
   have N2 := hide (NB.out _ B2.out)
   clear b2
   go_wp2_with fail
   refine N2.out.mono ?_
   rintro r w3 ⟨b, rfl, n3, -, b3⟩
   have B3 := hide (btr B2.out b3)
   have p0 := (n3.read (k := k) (by rw [← HN.out]; exact hk)).1
   rw [HZ.out] at p0
   clear n3 b3 N2 hk
   go_wp2_with fail
   go_ret2
   exact ⟨rfl, B3.out⟩
set_option maxRecDepth 100000 in
set_option maxHeartbeats 1600000 in
theorem knows_no (oa : Option Addr) (l : List Ev) (c : Nat) (i g : Int) (w : World) (hA : EsAt w oa l) (hl : l.length ≤ 1000) (ht : tokB l = false) :
 Calls Tryz.prog 24 #[.slice oa l.length c, .int .i64 i, .int .i64 g] w fun r w' => r = .returned (.tuple #[.int .i64 0, .int .i64 4]) ∧ Below w.heap.size w w' := by
 have TF := hide (tof_no oa l c w hA hl ht)
 generalize l.length = n at *
 clear hA hl ht
 go_enter Tryz.func24, Tryz.ntmps24
 go_wp2_with fail
 refine TF.out.mono ?_
 rintro r w1 ⟨rfl, b1⟩
 have B1 := hide (btr b1 (below_alloc w1 (.cells #[.pointer none, .slice none 0 0, .slice none 0 0] 83)))
 clear b1 TF
 go_wp2_with fail
 go_ret2
 exact ⟨rfl, B1.out⟩
noncomputable def knA (l : List Ev) (i g : Int) : Int := if askB l i then (knF (hA l) l i.toNat g : Int) else 0
set_option maxRecDepth 100000 in
set_option maxHeartbeats 1600000 in
theorem knows_yes (oa : Option Addr) (l : List Ev) (c : Nat) (i g : Int) (w : World) (hA : EsAt w oa l) (hl : l.length ≤ 1000) (ht : tokB l = true) :
 Calls Tryz.prog 24 #[.slice oa l.length c, .int .i64 i, .int .i64 g] w fun r w' => r = .returned (.tuple #[.int .i64 (knA l i g), .int .i64 (askE l i)]) ∧ Below w.heap.size w w' := by
 have TF := hide (tof_yes oa l c w hA hl ht)
 have hT := tokB_iff.1 ht
 have AK := hide (fun u (bb : Below w.heap.size w u) => ask_any oa l c i u (hA.below bb))
 have KN := hide (fun (k : Nat) (u : World) (M R W b : Nat) (T : TW u w.heap.size M R W b oa l) (hk : k < l.length) (hv : live l k = true) => knows_any u w.heap.size M R W b oa l c k g T hT hl hk hv)
 unfold knA askE
 obtain ⟨q, hq⟩ : ∃ q, askB l i = q := ⟨_, rfl⟩
 have HQ := hide hq
 rw [hq] at AK ⊢
 obtain ⟨n, hn⟩ : ∃ n, l.length = n := ⟨_, rfl⟩
 have HN := hide hn
 rw [hn] at TF AK KN hl ⊢
 clear hA ht hn hq
 cases q with
 | false =>
   go_enter Tryz.func24, Tryz.ntmps24
   go_wp2_with fail
   refine TF.out.mono ?_
   rintro r w1 ⟨M, R, W, b, rfl, t1, b1⟩
   have B1 := hide (btr b1 (below_alloc w1 (.cells #[.pointer (some ⟨M, 0, none⟩), .slice oa n c, .slice (some ⟨b, 0, none⟩) n n] 83)))
   have A1 := hide (AK.out _ B1.out)
   clear b1 TF t1
   go_wp2_with fail
   refine A1.out.mono ?_
   rintro r w2 ⟨rfl, b2⟩
   have B2 := hide (btr B1.out b2)
   clear b2
   go_wp2_with fail
   go_ret2
   exact ⟨rfl, B2.out⟩
 | true =>
   obtain ⟨k, rfl, hk, hv⟩ := ask_in HQ.out
   simp only [if_true, Int.toNat_natCast]
   obtain ⟨z, hz⟩ : ∃ z, (knF (hA l) l k g : Int) = z := ⟨_, rfl⟩
   have KN := hide (fun u M R W b T => KN.out k u M R W b T (by rw [← HN.out]; exact hk) hv)
   rw [hz] at KN ⊢
   clear hz hv
   go_enter Tryz.func24, Tryz.ntmps24
   go_wp2_with fail
   refine TF.out.mono ?_
   rintro r w1 ⟨M, R, W, b, rfl, t1, b1⟩
   have B1 := hide (btr b1 (below_alloc w1 (.cells #[.pointer (some ⟨M, 0, none⟩), .slice oa n c, .slice (some ⟨b, 0, none⟩) n n] 83)))
   have A1 := hide (AK.out _ B1.out)
   have T1 := hide (t1.below (below_alloc w1 (.cells #[.pointer (some ⟨M, 0, none⟩), .slice oa n c, .slice (some ⟨b, 0, none⟩) n n] 83)))
   have X1 := hide (heap_new w1 (.cells #[.pointer (some ⟨M, 0, none⟩), .slice oa n c, .slice (some ⟨b, 0, none⟩) n n] 83))
   clear b1 TF t1
   go_wp2_with fail
   refine A1.out.mono ?_
   rintro r w2 ⟨rfl, b2⟩
   have B2 := hide (btr B1.out b2)
   have T2 := hide (T1.out.below b2)
   have X2 := hide (heap_below X1.out b2)
   have K2 := hide (KN.out w2 M R W b T2.out)
   have e0 := cell_of X2.out 0
   have e1 := cell_of X2.out 1
   have e2 := cell_of X2.out 2
   simp at e0 e1 e2
   clear b2
   go_wp2_with fail
   refine K2.out.mono ?_
   rintro r w3 ⟨rfl, b3⟩
   have B3 := hide (btr B2.out b3)
   clear b3 e0 e1 e2
   go_wp2_with fail
   go_ret2
   exact ⟨rfl, B3.out⟩
set_option maxRecDepth 100000 in
set_option maxHeartbeats 1600000 in
theorem first_no (oa : Option Addr) (l : List Ev) (c : Nat) (i : Int) (w : World) (hA : EsAt w oa l) (hl : l.length ≤ 1000) (ht : tokB l = false) :
 Calls Tryz.prog 27 #[.slice oa l.length c, .int .i64 i] w fun r w' => r = .returned (.tuple #[.int .i64 0, .bool false, .int .i64 4]) ∧ Below w.heap.size w w' := by
 have TF := hide (tof_no oa l c w hA hl ht)
 generalize l.length = n at *
 clear hA hl ht
 go_enter Tryz.func27, Tryz.ntmps27
 go_wp2_with fail
 refine TF.out.mono ?_
 rintro r w1 ⟨rfl, b1⟩
 have B1 := hide (btr b1 (below_alloc w1 (.cells #[.pointer none, .slice none 0 0, .slice none 0 0] 83)))
 clear b1 TF
 go_wp2_with fail
 go_ret3
 exact ⟨rfl, B1.out⟩
def cellB8 (i : Int) : Bool := decide (0 ≤ i) && decide (i < 8)
noncomputable def firA (l : List Ev) (i : Int) : Option Nat := if cellB8 i then firF (hA l) l i l.length else none
def cellE (i : Int) : Int := if cellB8 i then 0 else 1
set_option maxRecDepth 100000 in
set_option maxHeartbeats 1600000 in
theorem first_yes (oa : Option Addr) (l : List Ev) (c : Nat) (i : Int) (w : World) (hA : EsAt w oa l) (hl : l.length ≤ 1000) (ht : tokB l = true) :
 Calls Tryz.prog 27 #[.slice oa l.length c, .int .i64 i] w fun r w' => r = .returned (.tuple #[.int .i64 (fr1 (firA l i)), .bool (firA l i).isSome, .int .i64 (cellE i)]) ∧ Below w.heap.size w w' := by
 have TF := hide (tof_yes oa l c w hA hl ht)
 have FI := hide (fun (u : World) (M R W b : Nat) (T : TW u w.heap.size M R W b oa l) => firstRace_any u w.heap.size M R W b oa l c i T hl)
 unfold firA cellE
 obtain ⟨n, hn⟩ : ∃ n, l.length = n := ⟨_, rfl⟩
 have HN := hide hn
 rw [hn] at TF FI hl ⊢
 by_cases h0 : 0 ≤ i
 ·by_cases h1 : i < 8
  ·have q : cellB8 i = true := by unfold cellB8; simp [h0, h1]
   rw [q]
   simp only [if_true]
   obtain ⟨o, ho⟩ : ∃ o, firF (Ax.hA l) l i n = o := ⟨_, rfl⟩
   rw [ho] at FI ⊢
   have h0' : ¬ (i < 0) := by omega
   have h1' : ¬ (8 ≤ i) := by omega
   clear hA ht hn q ho
   go_enter Tryz.func27, Tryz.ntmps27
   go_wp2_with fail
   refine TF.out.mono ?_
   rintro r w1 ⟨M, R, W, b, rfl, t1, b1⟩
   have B1 := hide (btr b1 (below_alloc w1 (.cells #[.pointer (some ⟨M, 0, none⟩), .slice oa n c, .slice (some ⟨b, 0, none⟩) n n] 83)))
   have T1 := hide (t1.below (below_alloc w1 (.cells #[.pointer (some ⟨M, 0, none⟩), .slice oa n c, .slice (some ⟨b, 0, none⟩) n n] 83)))
   have F1 := hide (FI.out _ M R W b T1.out)
   clear b1 TF t1
   go_wp2_with fail
   refine F1.out.mono ?_
   rintro r w2 ⟨rfl, b2⟩
   have B2 := hide (btr B1.out b2)
   clear b2
   go_wp2_with fail
   go_ret3
   exact ⟨rfl, B2.out⟩
  ·have q : cellB8 i = false := by unfold cellB8; simp [h1]
   rw [q]
   simp only [Bool.false_eq_true, if_false]
   have h0' : ¬ (i < 0) := by omega
   have h1' : 8 ≤ i := by omega
   clear hA ht hn q FI
   go_enter Tryz.func27, Tryz.ntmps27
   go_wp2_with fail
   refine TF.out.mono ?_
   rintro r w1 ⟨M, R, W, b, rfl, t1, b1⟩
   have B1 := hide (btr b1 (below_alloc w1 (.cells #[.pointer (some ⟨M, 0, none⟩), .slice oa n c, .slice (some ⟨b, 0, none⟩) n n] 83)))
   clear b1 TF t1
   go_wp2_with fail
   go_ret3
   exact ⟨rfl, B1.out⟩
 ·have q : cellB8 i = false := by unfold cellB8; simp [h0]
  rw [q]
  simp only [Bool.false_eq_true, if_false]
  have h0' : i < 0 := by omega
  clear hA ht hn q FI
  go_enter Tryz.func27, Tryz.ntmps27
  go_wp2_with fail
  refine TF.out.mono ?_
  rintro r w1 ⟨M, R, W, b, rfl, t1, b1⟩
  have B1 := hide (btr b1 (below_alloc w1 (.cells #[.pointer (some ⟨M, 0, none⟩), .slice oa n c, .slice (some ⟨b, 0, none⟩) n n] 83)))
  clear b1 TF t1
  go_wp2_with fail
  go_ret3
  exact ⟨rfl, B1.out⟩
end Ax
end Go.Proofs.YtblfimobiibmjaaGreat
namespace Go.Proofs.YtblfimobiibmjaaGreat
open Go.ChangeShapes Go.WideShapes Go.ChangeAt Go.RowKit
namespace Cr
open Ba
structure Mb where
 p : Int
 q : Int
 s : Int
def mc (l : List Mb) : List Value := l.flatMap fun x => [.int .i64 x.p, .int .i64 x.q, .int .i64 x.s]
theorem mc_nil : mc [] = [] := rfl
theorem mc_cons (x : Mb) (l : List Mb) : mc (x :: l) = .int .i64 x.p :: .int .i64 x.q :: .int .i64 x.s :: mc l := rfl
theorem mc_app (l m : List Mb) : mc (l ++ m) = mc l ++ mc m := by simp [mc]
theorem mc_at : ∀ (l : List Mb) (k : Nat) (x : Mb), l[k]? = some x → (mc l)[k * 3]? = some (.int .i64 x.p) ∧ (mc l)[k * 3 + 1]? = some (.int .i64 x.q) ∧ (mc l)[k * 3 + 2]? = some (.int .i64 x.s)
 | [], _, _, h => by simp at h
 | y :: l, 0, x, h => by simp at h; subst h; exact ⟨rfl, rfl, rfl⟩
 | y :: l, k + 1, x, h => by
   rw [mc_cons]
   have := mc_at l k x (by simpa using h)
   rw [show (k + 1) * 3 = k * 3 + 3 by omega]
   exact this
theorem mc_one (l : List Mb) : ∀ u ∈ mc l, u.oneCell' = true := by
 induction l with
 | nil => intro u hu; simp [mc_nil] at hu
 | cons x l ih =>
   intro u hu
   rw [mc_cons] at hu
   simp at hu
   rcases hu with rfl | rfl | rfl | hu
   ·rfl
   ·rfl
   ·rfl
   ·exact ih u hu
theorem mc_set1 : ∀ (l : List Mb) (k : Nat) (x : Mb) (y : Int), l[k]? = some x → (mc l).set (k * 3 + 1) (.int .i64 y) = mc (l.set k ⟨x.p, y, x.s⟩)
 | [], _, _, _, h => by simp at h
 | z :: l, 0, x, y, h => by simp at h; subst h; rfl
 | z :: l, k + 1, x, y, h => by
   rw [List.set_cons_succ, mc_cons, mc_cons, ← mc_set1 l k x y (by simpa using h), show (k + 1) * 3 + 1 = k * 3 + 1 + 1 + 1 + 1 by omega]
   simp only [List.set_cons_succ]
theorem mc_set2 : ∀ (l : List Mb) (k : Nat) (x : Mb) (y : Int), l[k]? = some x → (mc l).set (k * 3 + 2) (.int .i64 y) = mc (l.set k ⟨x.p, x.q, y⟩)
 | [], _, _, _, h => by simp at h
 | z :: l, 0, x, y, h => by simp at h; subst h; rfl
 | z :: l, k + 1, x, y, h => by
   rw [List.set_cons_succ, mc_cons, mc_cons, ← mc_set2 l k x y (by simpa using h), show (k + 1) * 3 + 2 = k * 3 + 2 + 1 + 1 + 1 by omega]
   simp only [List.set_cons_succ]
def MAt (w : World) (oa : Option Addr) (l : List Mb) : Prop :=
 ∀ k x, l[k]? = some x → ∃ b, oa = some ⟨b, 0, none⟩ ∧ w.cell? ⟨b, k * 3, none⟩ = some (.int .i64 x.p) ∧ w.cell? ⟨b, k * 3 + 1, none⟩ = some (.int .i64 x.q) ∧ w.cell? ⟨b, k * 3 + 2, none⟩ = some (.int .i64 x.s)
theorem MAt.nil (w : World) (oa : Option Addr) : MAt w oa [] := fun _ _ h => by simp at h
theorem MAt.below {w w' : World} {oa : Option Addr} {l : List Mb} (h : MAt w oa l) (hb : Below w.heap.size w w') : MAt w' oa l := by
 intro k x hk
 obtain ⟨b, e, h0, h1, h2⟩ := h k x hk
 exact ⟨b, e, (hb.cell (World.block_lt_of_cell? w _ h0)).trans h0, (hb.cell (World.block_lt_of_cell? w _ h1)).trans h1, (hb.cell (World.block_lt_of_cell? w _ h2)).trans h2⟩
theorem owns_mat {w : World} {base : Nat} {e : TypeId} {v : Value} {l : List Mb} (h : w.ownsRow base e 3 v l.length (mc l)) : ∃ oa c, v = .slice oa l.length c ∧ MAt w oa l ∧ l.length ≤ c := by
 rcases h.2 with ⟨rfl, h0⟩ | ⟨g, cap, cur, rfl, _, hg, hc, _, hcs, htk⟩
 ·refine ⟨none, 0, by rw [h0], ?_, by omega⟩
  obtain rfl := List.eq_nil_of_length_eq_zero h0
  exact MAt.nil _ _
 ·refine ⟨_, cap, rfl, ?_, hc⟩
  intro k x hk
  have hkl := (List.getElem?_eq_some_iff.1 hk).1
  obtain ⟨q0, q1, q2⟩ := mc_at l k x hk
  rw [← htk, List.getElem?_take_of_lt (by omega)] at q0 q1 q2
  refine ⟨g, rfl, ?_, ?_, ?_⟩
  ·rw [cell_of hg]; simpa using q0
  ·rw [cell_of hg]; simpa using q1
  ·rw [cell_of hg]; simpa using q2
theorem src3 (w : World) (x : Mb) (t : TypeId) : ∀ j u, (mc [x])[j]? = some u → (w.alloc (.cells #[.int .i64 x.p, .int .i64 x.q, .int .i64 x.s] t)).cell? ((⟨w.heap.size, 0, none⟩ : Addr).add j) = some u := by
 intro j u hj
 rw [Addr.add_lit, Nat.zero_add, cell_of (heap_new _ _)]
 rw [mc_cons, mc_nil] at hj
 rw [← hj]
 simp
theorem own_keep {w w' : World} {base : Nat} {e : TypeId} {size : Nat} {v : Value} {n : Nat} {xs : List Value} (h : w.ownsRow base e size v n xs) (hk : ∀ g, v.ownBlock = some g → w'.heap[g]? = w.heap[g]?) : w'.ownsRow base e size v n xs := by
 refine ⟨h.1, ?_⟩
 rcases h.2 with q | ⟨g, cap, cur, q1, q2, q3, q4⟩
 ·exact .inl q
 ·exact .inr ⟨g, cap, cur, q1, q2, (hk g (by rw [q1]; rfl)).trans q3, q4⟩
theorem own_blk {w : World} {base : Nat} {e : TypeId} {size : Nat} {v : Value} {n : Nat} {xs : List Value} (h : w.ownsRow base e size v n xs) (g : Nat) (hg : v.ownBlock = some g) : base ≤ g ∧ ∃ cur, w.heap[g]? = some (.cells cur e (0, 0)) := by
 rcases h.2 with ⟨rfl, _⟩ | ⟨g', cap, cur, rfl, q2, q3, q4⟩
 ·simp [Value.ownBlock] at hg
 ·simp [Value.ownBlock] at hg
  subst hg
  exact ⟨q2, cur, q3⟩
theorem own_set {w : World} {base : Nat} {e : TypeId} {g n cap j : Nat} {xs : List Value} (h : w.ownsRow base e 3 (.slice (some ⟨g, 0, none⟩) n cap) n xs) (u : Value) : (w.setCell ⟨g, j, none⟩ u).ownsRow base e 3 (.slice (some ⟨g, 0, none⟩) n cap) n (xs.set j u) := by
 refine ⟨by rw [List.length_set]; exact h.1, ?_⟩
 rcases h.2 with ⟨q, _⟩ | ⟨g', cap', cur, q1, q2, q3, q4, q5, q6, q7⟩
 ·cases q
 ·cases q1
  refine .inr ⟨g, cap, _, rfl, q2, Ba.heap_setCell_same q3 u, q4, q5, by simpa using q6, ?_⟩
  rw [Array.toList_setIfInBounds, List.take_set, q7]
structure Cw (T E : TypeId) (w : World) (B : Nat) (F : Nat → Prop) (oa : Option Addr) (c : Nat) (l : List Mb) : Prop where
 hp : w.heap[B]? = some (.cells #[.slice oa l.length c] T (0, 0))
 ow : w.ownsRow 0 E 3 (.slice oa l.length c) l.length (mc l)
 fb : F B
 fr : ∀ g, (Value.slice oa l.length c).ownBlock = some g → F g
 bd : Bd F w
 le : l.length ≤ 512
def Cq (T E : TypeId) (w : World) (B : Nat) (F : Nat → Prop) (l : List Mb) : Prop := ∃ oa c, Cw T E w B F oa c l
section
variable {T E : TypeId} {w w' : World} {B : Nat} {F K : Nat → Prop} {oa : Option Addr} {c : Nat} {l : List Mb}
theorem Cw.at (h : Cw T E w B F oa c l) : MAt w oa l ∧ l.length ≤ c := by
 obtain ⟨oa', c', e, h1, h2⟩ := owns_mat h.ow
 cases e
 exact ⟨h1, h2⟩
theorem Cw.lt (h : Cw T E w B F oa c l) : B < w.heap.size := heap_lt h.hp
theorem Cq.le (h : Cq T E w B F l) : l.length ≤ 512 := by
 obtain ⟨oa, c, h⟩ := h
 exact h.le
theorem Cq.bd (h : Cq T E w B F l) : Bd F w := by
 obtain ⟨oa, c, h⟩ := h
 exact h.bd
theorem Cw.sm (h : Cw T E w B F oa c l) (s : Sm F w w') : Cw T E w' B F oa c l :=
 ⟨s.heap h.fb h.hp, own_keep h.ow fun g e => s g (h.fr g e), h.fb, h.fr, h.bd.sm s, h.le⟩
theorem Cw.below (h : Cw T E w B F oa c l) (hb : Below w.heap.size w w') : Cw T E w' B F oa c l := h.sm (Sm.below hb h.bd)
theorem Cq.below (h : Cq T E w B F l) (hb : Below w.heap.size w w') : Cq T E w' B F l := by
 obtain ⟨oa, c, h⟩ := h
 exact ⟨oa, c, h.below hb⟩
theorem Cw.set1 {g k : Nat} {x : Mb} (h : Cw T E w B F (some ⟨g, 0, none⟩) c l) (hT : T ≠ E) (hk : l[k]? = some x) (y : Int) : Cw T E (w.setCell ⟨g, k * 3 + 1, none⟩ (.int .i64 y)) B F (some ⟨g, 0, none⟩) c (l.set k ⟨x.p, y, x.s⟩) := by
 have K := (KB.refl g w).setCell (k * 3 + 1) (.int .i64 y)
 have hg : g ≠ B := by
  intro e
  obtain ⟨_, cur, q⟩ := own_blk h.ow g rfl
  rw [e, h.hp] at q
  cases q
  exact hT rfl
 refine ⟨?_, ?_, h.fb, ?_, h.bd.mono K.size, by rw [List.length_set]; exact h.le⟩
 ·rw [List.length_set]; exact K.heap h.hp (Ne.symm hg)
 ·rw [List.length_set, ← mc_set1 l k x y hk]; exact own_set h.ow _
 ·rw [List.length_set]; exact h.fr
theorem Cw.set2 {g k : Nat} {x : Mb} (h : Cw T E w B F (some ⟨g, 0, none⟩) c l) (hT : T ≠ E) (hk : l[k]? = some x) (y : Int) : Cw T E (w.setCell ⟨g, k * 3 + 2, none⟩ (.int .i64 y)) B F (some ⟨g, 0, none⟩) c (l.set k ⟨x.p, x.q, y⟩) := by
 have K := (KB.refl g w).setCell (k * 3 + 2) (.int .i64 y)
 have hg : g ≠ B := by
  intro e
  obtain ⟨_, cur, q⟩ := own_blk h.ow g rfl
  rw [e, h.hp] at q
  cases q
  exact hT rfl
 refine ⟨?_, ?_, h.fb, ?_, h.bd.mono K.size, by rw [List.length_set]; exact h.le⟩
 ·rw [List.length_set]; exact K.heap h.hp (Ne.symm hg)
 ·rw [List.length_set, ← mc_set2 l k x y hk]; exact own_set h.ow _
 ·rw [List.length_set]; exact h.fr
def Fw (F : Nat → Prop) (v : Value) : Nat → Prop := fun k => F k ∨ v.ownBlock = some k
theorem Cw.put {v0 : Value} {m : List Mb} (hG : w.heap[B]? = some (.cells #[v0] T (0, 0))) (ow : w.ownsRow 0 E 3 (.slice oa m.length c) m.length (mc m)) (hT : T ≠ E) (fb : F B) (bd : Bd F w) (le : m.length ≤ 512) : Cw T E (w.setCell ⟨B, 0, none⟩ (.slice oa m.length c)) B (Fw F (.slice oa m.length c)) oa c m := by
 have K := (KB.refl B w).setCell 0 (.slice oa m.length c)
 refine ⟨(Ba.heap_setCell_same hG _).trans rfl, own_keep ow fun g e => ?_, .inl fb, fun g e => .inr e, ?_, le⟩
 ·obtain ⟨_, cur, q⟩ := own_blk ow g e
  refine K.block g (heap_lt q) fun e2 => ?_
  rw [e2, hG] at q
  cases q
  exact hT rfl
 ·intro k hk
  refine Nat.lt_of_lt_of_le ?_ K.size
  rcases hk with q | q
  ·exact bd k q
  ·obtain ⟨_, cur, q⟩ := own_blk ow k q
   exact heap_lt q
end
def spE (l : List Mb) (p : Int) : Int := if p < 0 then 1 else if 512 ≤ l.length then 5 else 0
def spV (l : List Mb) (p : Int) : Int := if p < 0 then 0 else if 512 ≤ l.length then 0 else l.length
def spL (l : List Mb) (p : Int) : List Mb := if p < 0 then l else if 512 ≤ l.length then l else l ++ [⟨p, 0, 0⟩]
def gt (l : List Mb) (g : Int) : Option Mb := if g < 0 then none else l[g.toNat]?
def thr (l : List Mb) (g : Int) : Bool := (gt l g).isSome
def one0 (o : Option Mb) : Mb := o.getD ⟨0, 0, 0⟩
def chE (l : List Mb) (g a : Int) : Int := match gt l g with
 | none => 6
 | some x => if x.s = a then 0 else 7
def chL (l : List Mb) (g a b d : Int) : List Mb := match gt l g with
 | none => l
 | some x => if x.s = a then l.set g.toNat ⟨x.p, x.q + d, b⟩ else l
def ablF : Nat → List Mb → List Int
 | _, [] => []
 | k, x :: l => if x.s = 0 then (k : Int) :: ablF (k + 1) l else ablF (k + 1) l
def abl (l : List Mb) : List Int := ablF 0 l
def hasS (l : List Mb) (s : Int) : Bool := l.any fun x => x.s == s
def ovr (l : List Mb) : Int := if hasS l 0 then 0 else if hasS l 1 then 2 else 1
theorem gt_none {l : List Mb} {g : Int} (h : gt l g = none) : g < 0 ∨ (l.length : Int) ≤ g := by
 unfold gt at h
 split at h
 ·exact .inl ‹_›
 ·rw [List.getElem?_eq_none_iff] at h
  omega
theorem gt_some {l : List Mb} {g : Int} {x : Mb} (h : gt l g = some x) : ∃ k : Nat, g = (k : Int) ∧ k < l.length ∧ l[k]? = some x := by
 unfold gt at h
 split at h
 ·cases h
 ·exact ⟨g.toNat, by omega, (List.getElem?_eq_some_iff.1 h).1, h⟩
def Bn (K : Nat) (l : List Mb) : Prop := ∀ x ∈ l, (0 ≤ x.q ∧ x.q ≤ K) ∧ 0 ≤ x.s ∧ x.s ≤ 2
theorem Bn.mono {K M : Nat} {l : List Mb} (h : Bn K l) (hK : K ≤ M) : Bn M l := fun x hx => by have := h x hx; omega
theorem Bn.at {K : Nat} {l : List Mb} (h : Bn K l) {k : Nat} {x : Mb} (hx : l[k]? = some x) : (0 ≤ x.q ∧ x.q ≤ K) ∧ 0 ≤ x.s ∧ x.s ≤ 2 := h x (List.mem_of_getElem? hx)
theorem Bn.gt {K : Nat} {l : List Mb} (h : Bn K l) {g : Int} {x : Mb} (hx : gt l g = some x) : (0 ≤ x.q ∧ x.q ≤ K) ∧ 0 ≤ x.s ∧ x.s ≤ 2 := by
 obtain ⟨k, _, _, q⟩ := gt_some hx
 exact h.at q
theorem Bn.sp {K : Nat} {l : List Mb} (h : Bn K l) (p : Int) : Bn K (spL l p) := by
 unfold spL
 split
 ·exact h
 ·split
  ·exact h
  ·intro x hx
   rcases List.mem_append.1 hx with q | q
   ·exact h x q
   ·simp at q
    subst q
    exact ⟨⟨by simp, by simp⟩, by simp, by simp⟩
theorem Bn.ch {K : Nat} {l : List Mb} (h : Bn K l) (g a b d : Int) (hb : 0 ≤ b ∧ b ≤ 2) (hd : 0 ≤ d ∧ d ≤ 1) : Bn (K + 1) (chL l g a b d) := by
 unfold chL
 cases hg : Cr.gt l g with
 | none => exact h.mono (Nat.le_succ _)
 | some x =>
   have hx := h.gt hg
   simp only
   split
   ·intro y hy
    rcases List.mem_or_eq_of_mem_set hy with q | q
    ·exact (h.mono (Nat.le_succ _)) y q
    ·subst q
     simp only
     omega
   ·exact h.mono (Nat.le_succ _)
theorem ablF_app : ∀ (k : Nat) (l m : List Mb), ablF k (l ++ m) = ablF k l ++ ablF (k + l.length) m
 | k, [], m => by simp [ablF]
 | k, x :: l, m => by
   have h := ablF_app (k + 1) l m
   rw [show k + 1 + l.length = k + (x :: l).length by simp; omega] at h
   simp only [List.cons_append, ablF, h]
   split <;> simp
theorem ablF_len : ∀ (k : Nat) (l : List Mb), (ablF k l).length ≤ l.length
 | _, [] => by simp [ablF]
 | k, x :: l => by
   have h := ablF_len (k + 1) l
   simp only [ablF]
   split <;> simp <;> omega
theorem abl_len (l : List Mb) : (abl l).length ≤ l.length := ablF_len 0 l
theorem abl_take {l : List Mb} {k : Nat} {x : Mb} (h : l[k]? = some x) : abl (l.take (k + 1)) = abl (l.take k) ++ if x.s = 0 then [(k : Int)] else [] := by
 have hk := (List.getElem?_eq_some_iff.1 h).1
 unfold abl
 rw [List.take_add_one, h, ablF_app]
 congr 1
 rw [List.length_take, Nat.min_eq_left (by omega), Nat.zero_add]
 simp [ablF]
theorem hasS_take {l : List Mb} {k : Nat} {x : Mb} (h : l[k]? = some x) (s : Int) : hasS (l.take (k + 1)) s = (hasS (l.take k) s || x.s == s) := by
 unfold hasS
 rw [List.take_add_one, h, List.any_append]
 simp
end Cr
end Go.Proofs.YtblfimobiibmjaaGreat
namespace Go.Proofs.YtblfimobiibmjaaGreat
open Go.ChangeShapes Go.WideShapes Go.ChangeAt Go.RowKit
namespace Cr
open Ba
end Cr
end Go.Proofs.YtblfimobiibmjaaGreat
namespace Go.Proofs.YtblfimobiibmjaaGreat
open Go.ChangeShapes Go.WideShapes Go.ChangeAt Go.RowKit
namespace Cr
open Ba
def Po (T E : TypeId) (w w' : World) (B : Nat) (F : Nat → Prop) (l : List Mb) : Prop := ∃ F', Cq T E w' B F' l ∧ KF F w w' ∧ Nw F' F w
theorem Po.of {T E : TypeId} {w w' : World} {B : Nat} {F : Nat → Prop} {l : List Mb} (h : Cq T E w B F l) (b : Below w.heap.size w w') : Po T E w w' B F l := ⟨F, h.below b, KF.of b, Nw.refl _ _⟩
theorem Cw.both {T E : TypeId} {w : World} {B : Nat} {F : Nat → Prop} {c : Nat} {l : List Mb} {m k : Nat} {x : Mb} (h : Cw T E w B F (some ⟨m, 0, none⟩) c l) (hT : T ≠ E) (hx : l[k]? = some x) (y b : Int) : Cw T E ((w.setCell ⟨m, k * 3 + 2, none⟩ (.int .i64 b)).setCell ⟨m, k * 3 + 1, none⟩ (.int .i64 y)) B F (some ⟨m, 0, none⟩) c (l.set k ⟨x.p, y, b⟩) := by
 have h2 := (h.set2 hT hx b).set1 hT (k := k) (x := ⟨x.p, x.q, b⟩) (by rw [List.getElem?_set_self (List.getElem?_eq_some_iff.1 hx).1]) y
 rw [List.set_set] at h2
 exact h2
def tv (a b d : Int) : Value := .agg #[.int .i64 a, .int .i64 b, .int .i64 d]
end Cr
end Go.Proofs.YtblfimobiibmjaaGreat
