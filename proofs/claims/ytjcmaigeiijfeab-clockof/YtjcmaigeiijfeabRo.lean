/- The reference's Of, over this seat's program. -/
import Derived.Test.YtjcmaigeiijfeabRl
namespace Go.Proofs.Ytjcmaigeiijfeab
open Go.ChangeShapes Go.WideShapes Go.ChangeAt Go.RowKit
namespace Ck

/-- noughts -/
def nf : Nat → Int := fun _ => 0
theorem info_ref : (Try.prog.info? 37).map (fun i => (i.zero, i.size)) = some (some (.agg (ra nf)), 256) := by kernel_rfl
theorem zero_ref : ∀ w, (zeroValue 37).run Try.prog w = .ok (.agg (ra nf)) w := (zero_of_info info_ref).1
theorem size_ref : (Try.prog.info? 37).map (·.size) = some 256 := (zero_of_info info_ref).2
theorem built_ref : Try.prog.built 37 [] = some (ra nf) := by kernel_rfl
theorem build_ref (w : World) : (Instr.build 37 #[]).run Try.prog w = .ok (.agg (ra nf)) w := run_build w _ #[] _ built_ref
theorem ra_one (F : Nat → Int) : (ra F).all (·.oneCell') = true := by
  apply all_oneCell_toArray
  intro v hv
  simp at hv
  obtain ⟨k, _, rfl⟩ := hv
  rfl
theorem agg_ref (w : World) : (isAgg 37).run Try.prog w = .ok true w := by
  unfold isAgg
  rw [Sem.run_bind, run_underlying Try.underlying37 w]
  rfl
theorem sz_ref (w : World) : (sizeOf 37).run Try.prog w = .ok 256 w := by
  have := size_ref
  cases hq : Try.prog.info? 37 with
  | none => rw [hq] at this; simp at this
  | some i =>
    rw [hq] at this
    simp at this
    simp [sizeOf, typeInfo, hq, this]
/-- 256 cells, read one behind the other -/
theorem ld_ref {w : World} {b off : Nat} {F : Nat → Int} (h : RA w b off F) : (loadCellsFrom ⟨b, off, none⟩ 0 256 #[]).run Try.prog w = .ok (ra F) w := by
  have := run_loadCells_list (P := Try.prog) w ⟨b, off, none⟩ ((List.range 256).map fun k => Value.int .i64 (F k)) (fun j v hv => by
    have hj : j < 256 := by
      have := (List.getElem?_eq_some_iff.1 hv).1
      simpa using this
    rw [Addr.add_lit, (h j hj).1]
    simpa [hj] using hv)
  simpa [loadCells, ra] using this
/-- 256 cells, written one behind the other, over a whole block -/
theorem st_ref {w : World} {b : Nat} {old : Array Value} {t : TypeId} (F : Nat → Int) (h : w.heap[b]? = some (.cells old t (0, 0))) (ho : old.size = 256) : (storeCells ⟨b, 0, none⟩ (ra F).toList).run Try.prog w = .ok () (w.setRow b (ra F)) := by
  have := run_storeCells_from (P := Try.prog) b t (ra F).toList 0 old w h (by simp [ra_size, ho]) (fun v hv => (Array.all_eq_true_iff_forall_mem.1 (ra_one F)) v (by simpa using hv))
  simpa using this

theorem loadVar_ref {w : World} {b : Nat} {F : Nat → Int} {t : TypeId} (h : w.heap[b]? = some (.cells (ra F) t (0, 0))) : (loadVar 37 ⟨b, 0, none⟩).run Try.prog w = .ok (.agg (ra F)) w :=
  run_loadVar_row w b t _ _ _ _ h Try.underlying37 rfl (by rw [size_ref, ra_size])
theorem results_row2 {fn : Func} {p u : Tmp} {ty : TypeId} (h : fn.results = #[.cell p ty, .tmp u]) (tmps : Array Value) (w : World) (g : Nat) (cs : Array Value) (v : Value)
    (hp : tmps.getD p undef = .pointer (some ⟨g, 0, none⟩)) (hv : tmps.getD u undef = v) (hl : (loadVar ty ⟨g, 0, none⟩).run Try.prog w = .ok (.agg cs) w) :
    (results fn tmps).run Try.prog w = .ok (.tuple #[.agg cs, v]) w := by
  subst hv
  have hp' : tmps[p]?.getD undef = .pointer (some ⟨g, 0, none⟩) := by simpa using hp
  simp [results, h, hp', asAddr, hl]

set_option maxRecDepth 100000 in
set_option maxHeartbeats 1600000 in
theorem rof_long (oa : Option Addr) (n c : Nat) (w : World) (h : 256 < n) (hm : n ≤ maxLen) :
    Calls Try.prog 32 #[.slice oa n c] w fun r w' => r = .returned (.tuple #[.agg (ra nf), .int .i64 2]) ∧ Below w.heap.size w w' := by
  unfold maxLen at hm
  have h' : (256 : Int) < (n : Int) := by omega
  have zr := zero_ref
  have br := build_ref
  have rs := ra_size nf
  have s1 := st_ref nf (heap_new (w.alloc (.cells (ra nf) 37)) (.cells (ra nf) 37)) (ra_size nf)
  rw [setRow_new, World.size_alloc] at s1
  have hR : (((w.alloc (.cells (ra nf) 37)).alloc (.cells (ra nf) 37))).heap[w.heap.size]? = some (.cells (ra nf) 37 (0, 0)) := (Below.heap_alloc _ _ _ (by simp)).trans (heap_new _ _)
  have hC : (((w.alloc (.cells (ra nf) 37)).alloc (.cells (ra nf) 37))).heap[w.heap.size + 1]? = some (.cells (ra nf) 37 (0, 0)) := by
    have := heap_new (w.alloc (.cells (ra nf) 37)) (.cells (ra nf) 37)
    rw [World.size_alloc] at this
    exact this
  have s2 := st_ref nf hR (ra_size nf)
  rw [setRow_self _ _ _ _ _ hR] at s2
  have HR := hide hR
  have HC := hide hC
  clear hR hC
  go_enter Try.func32, Try.ntmps32
  go_wp2_with (refine wpList_load_row rfl 37 _ rfl _ rfl 37 _ (0, 0) _ HC.out Try.underlying37 rfl (by rw [size_ref, ra_size]) ?_)
  exact bodyPost_ret (results_row2 Try.results32 _ _ _ _ _ rfl rfl (loadVar_ref HR.out)) rfl ⟨rfl, btr (below_alloc _ _) (below_alloc _ _)⟩

def gk (l : List Int) (k : Nat) : Nat → Int := fun j => if j < k then nth l j else 0
theorem gk_zero (l : List Int) : gk l 0 = nf := by funext j; simp [gk, nf]
theorem gk_all (l : List Int) : gk l l.length = nth l := by
  funext j
  by_cases h : j < l.length
  · simp [gk, h]
  · simp [gk, h, nth_out l j (by omega)]
theorem ra_set (F G : Nat → Int) (k : Nat) (v : Int) (hk : k < 256) (h : ∀ j, G j = if j = k then v else F j) : (ra F).setIfInBounds k (.int .i64 v) = ra G := by
  apply Array.ext_getElem?
  intro i
  by_cases hi : i < 256
  · rw [ra_at G i hi, h i]
    by_cases e : i = k
    · subst e
      rw [if_pos rfl, Array.getElem?_setIfInBounds_self_of_lt (by rw [ra_size]; exact hi)]
    · rw [if_neg e, Array.getElem?_setIfInBounds_ne (Ne.symm e), ra_at F i hi]
  · rw [Array.getElem?_eq_none (by rw [Array.size_setIfInBounds, ra_size]; omega), Array.getElem?_eq_none (by rw [ra_size]; omega)]

set_option maxRecDepth 100000 in
set_option maxHeartbeats 1600000 in
theorem rof_bad (oa : Option Addr) (l : List Int) (c : Nat) (w : World) (hA : At w oa l) (hl : l.length ≤ 256) (hv : ¬ Valid l) :
    Calls Try.prog 32 #[.slice oa l.length c] w fun r w' => r = .returned (.tuple #[.agg (ra nf), .int .i64 1]) ∧ Below w.heap.size w w' := by
  have HV := hide hv
  have HA := hide (hA.below (btr (below_alloc w (.cells (ra nf) 37)) (below_alloc (w.alloc (.cells (ra nf) 37)) (.cells (ra nf) 37))))
  clear hv hA
  have zr := zero_ref
  have br := build_ref
  have rs := ra_size nf
  have s1 := st_ref nf (heap_new (w.alloc (.cells (ra nf) 37)) (.cells (ra nf) 37)) (ra_size nf)
  rw [setRow_new, World.size_alloc] at s1
  have hR : (((w.alloc (.cells (ra nf) 37)).alloc (.cells (ra nf) 37))).heap[w.heap.size]? = some (.cells (ra nf) 37 (0, 0)) := (Below.heap_alloc _ _ _ (by simp)).trans (heap_new _ _)
  have s2 := st_ref nf hR (ra_size nf)
  rw [setRow_self _ _ _ _ _ hR] at s2
  have HR := hide hR
  clear hR
  go_enter Try.func32, Try.ntmps32
  go_wp2_with fail
  go_loop [16] (fun i => ∃ k : Nat, k ≤ l.length ∧ i = .int .i64 k ∧ ∀ j, j < k → okN (nth l j) = true) (fun i => l.length - (intOf i).toNat)
  case atStart => exact ⟨0, Nat.zero_le _, rfl, fun j hj => absurd hj (Nat.not_lt_zero _)⟩
  case round =>
    obtain ⟨k, hk, rfl, hall⟩ := hrel
    have HH := hide hall
    clear hall
    by_cases hlt : k < l.length
    · obtain ⟨b', off, rfl, hc⟩ := HA.out k hlt
      by_cases h1 : nth l k < 0
      · go_wp2
        exact bodyPost_ret (results_row2 Try.results32 _ _ _ _ _ rfl rfl (loadVar_ref HR.out)) rfl ⟨rfl, btr (below_alloc _ _) (below_alloc _ _)⟩
      by_cases h2 : 1048576 < nth l k
      · go_wp2
        exact bodyPost_ret (results_row2 Try.results32 _ _ _ _ _ rfl rfl (loadVar_ref HR.out)) rfl ⟨rfl, btr (below_alloc _ _) (below_alloc _ _)⟩
      have HO : Hid (okN (nth l k) = true) := by show _ = _; rw [okN_iff]; omega
      go_wp2
      go_round
      case rel => exact ⟨k + 1, by omega, by go_num, fun j hj => by
        by_cases e : j = k
        · subst e; exact HO.out
        · exact HH.out j (by omega)⟩
      case measure => simp [intOf]; omega
    · exact absurd (fun j hj => HH.out j (by omega)) HV.out

set_option maxRecDepth 100000 in
set_option maxHeartbeats 1600000 in
theorem rof_ok (oa : Option Addr) (l : List Int) (c : Nat) (w : World) (hA : At w oa l) (hl : l.length ≤ 256) (hv : Valid l) :
    Calls Try.prog 32 #[.slice oa l.length c] w fun r w' => r = .returned (.tuple #[.agg (ra (nth l)), .int .i64 0]) ∧ Below w.heap.size w w' := by
  have HV := hide hv
  have HA0 := hide hA
  have HA := hide (hA.below (btr (below_alloc w (.cells (ra nf) 37)) (below_alloc (w.alloc (.cells (ra nf) 37)) (.cells (ra nf) 37))))
  have BB := hide (btr (below_alloc w (.cells (ra nf) 37)) (below_alloc (w.alloc (.cells (ra nf) 37)) (.cells (ra nf) 37)))
  clear hv hA
  have zr := zero_ref
  have br := build_ref
  have rs := ra_size nf
  have s1 := st_ref nf (heap_new (w.alloc (.cells (ra nf) 37)) (.cells (ra nf) 37)) (ra_size nf)
  rw [setRow_new, World.size_alloc] at s1
  have hR : (((w.alloc (.cells (ra nf) 37)).alloc (.cells (ra nf) 37))).heap[w.heap.size]? = some (.cells (ra nf) 37 (0, 0)) := (Below.heap_alloc _ _ _ (by simp)).trans (heap_new _ _)
  have hC : (((w.alloc (.cells (ra nf) 37)).alloc (.cells (ra nf) 37))).heap[w.heap.size + 1]? = some (.cells (ra nf) 37 (0, 0)) := by
    have := heap_new (w.alloc (.cells (ra nf) 37)) (.cells (ra nf) 37)
    rw [World.size_alloc] at this
    exact this
  have HR := hide hR
  have HC := hide hC
  clear hR hC
  go_enter Try.func32, Try.ntmps32
  go_wp2_with fail
  go_loop [16] (fun i => ∃ k : Nat, k ≤ l.length ∧ i = .int .i64 k) (fun i => l.length - (intOf i).toNat)
  case atStart => exact ⟨0, Nat.zero_le _, rfl⟩
  case round =>
    obtain ⟨k, hk, rfl⟩ := hrel
    by_cases hlt : k < l.length
    · obtain ⟨b', off, rfl, hc⟩ := HA.out k hlt
      obtain ⟨v0, v1⟩ := (okN_iff _).1 (HV.out k hlt)
      go_wp2
      go_round
      case rel => exact ⟨k + 1, by omega, by go_num⟩
      case measure => simp [intOf]; omega
    · clear hk s1 zr br
      go_wp2_with fail
      generalize (w.alloc (Obj.cells (ra nf) 37)).alloc (Obj.cells (ra nf) 37) = W at HA BB HR HC ⊢
      go_loopw [30] (fun i wr => ∃ k : Nat, k ≤ l.length ∧ i = .int .i64 k ∧ wr.heap[w.heap.size + 1]? = some (.cells (ra (gk l k)) 37 (0, 0)) ∧ wr.heap[w.heap.size]? = some (.cells (ra nf) 37 (0, 0)) ∧ Below w.heap.size w wr) (fun i _ => l.length - (intOf i).toNat)
      case atStart => exact ⟨0, Nat.zero_le _, rfl, by rw [gk_zero]; exact HC.out, HR.out, BB.out⟩
      case round =>
        obtain ⟨j, hj, rfl, h1, h2, h3⟩ := hrel
        by_cases hjl : j < l.length
        · obtain ⟨b', off, rfl, hc⟩ := (HA0.out.below h3) j hjl
          have hj256 : j < 256 := by omega
          have hj' : (j : Int) < 256 := by omega
          have c1 := (cell_of h1 j).trans (ra_at _ j hj256)
          have f1 := frozen_of h1 j
          have H1 := hide h1
          have H2 := hide h2
          have H3 := hide h3
          clear h1 h2 h3
          go_wp2
          go_roundw
          case rel => exact ⟨j + 1, by omega, by go_num, by
              rw [Ck.heap_setCell_same H1.out, ra_set _ (gk l (j + 1)) j _ hj256 (fun i => by
                by_cases e : i = j
                · subst e; simp [gk]
                · have : (i < j + 1) = (i < j) := by simp; omega
                  simp only [gk, this, if_neg e])], by
              rw [Below.heap_setCell _ _ _ _ (by simp)]; exact H2.out, H3.out.setCell (by simp) _⟩
          case measure => simp [intOf]; omega
        · have e : j = l.length := by omega
          subst e
          rw [gk_all] at h1
          have H1 := hide h1
          have H2 := hide h2
          have H3 := hide h3
          clear h1 h2 h3
          go_wp2_with (first | (refine wpList_load_row rfl 37 _ rfl _ rfl 37 _ (0, 0) _ H1.out Try.underlying37 rfl (by rw [size_ref, ra_size]) ?_) | (refine wpList_store_row rfl 37 _ _ rfl _ _ rfl rfl 37 _ H2.out (by rw [size_ref, ra_size]) (by rw [ra_size, ra_size]) (ra_one _) ?_))
          exact bodyPost_ret (results_row2 Try.results32 _ _ _ _ _ rfl rfl (loadVar_ref (setRow_heap _ _ _ _ _ _ H2.out))) rfl ⟨rfl, below_setRow H3.out (Nat.le_refl _) _⟩
end Ck
end Go.Proofs.Ytjcmaigeiijfeab
