/- The reference's Of, over this seat's program. -/
import Derived.Test.YtfimfgffbfjkeaaRz
namespace Go.Proofs.Ytfimfgffbfjkeaa
open Go.ChangeShapes Go.WideShapes Go.ChangeAt Go.RowKit
namespace Ck

set_option maxRecDepth 100000 in
set_option maxHeartbeats 1600000 in
theorem rof_long (oa : Option Addr) (n c : Nat) (w : World) (h : 256 < n) (hm : n ≤ maxLen) :
    Calls Try.prog 29 #[.slice oa n c] w fun r w' => r = .returned (.tuple #[.agg (ra nf), .int .i64 2]) ∧ Below w.heap.size w w' := by
  unfold maxLen at hm
  have h' : (256 : Int) < (n : Int) := by omega
  have zr := zero_ref
  have br := build_ref
  have rs := ra_size nf
  have s1 := st_ref nf (heap_new (w.alloc (.cells (ra nf) 59)) (.cells (ra nf) 59)) (ra_size nf)
  rw [setRow_new, World.size_alloc] at s1
  have hR : (((w.alloc (.cells (ra nf) 59)).alloc (.cells (ra nf) 59))).heap[w.heap.size]? = some (.cells (ra nf) 59 (0, 0)) := (Below.heap_alloc _ _ _ (by simp)).trans (heap_new _ _)
  have hC : (((w.alloc (.cells (ra nf) 59)).alloc (.cells (ra nf) 59))).heap[w.heap.size + 1]? = some (.cells (ra nf) 59 (0, 0)) := by
    have := heap_new (w.alloc (.cells (ra nf) 59)) (.cells (ra nf) 59)
    rw [World.size_alloc] at this
    exact this
  have s2 := st_ref nf hR (ra_size nf)
  rw [setRow_self _ _ _ _ _ hR] at s2
  have HR := hide hR
  have HC := hide hC
  clear hR hC
  go_enter Try.func29, Try.ntmps29
  go_wp2_with (refine wpList_load_row rfl 59 _ rfl _ rfl 59 _ (0, 0) _ HC.out Try.underlying59 rfl (by rw [size_ref, ra_size]) ?_)
  exact bodyPost_ret (results_row2 Try.results29 _ _ _ _ _ rfl rfl (loadVar_ref HR.out)) rfl ⟨rfl, btr (below_alloc _ _) (below_alloc _ _)⟩

set_option maxRecDepth 100000 in
set_option maxHeartbeats 1600000 in
theorem rof_bad (oa : Option Addr) (l : List Int) (c : Nat) (w : World) (hA : At w oa l) (hl : l.length ≤ 256) (hv : ¬ Valid l) :
    Calls Try.prog 29 #[.slice oa l.length c] w fun r w' => r = .returned (.tuple #[.agg (ra nf), .int .i64 1]) ∧ Below w.heap.size w w' := by
  have HV := hide hv
  have HA := hide (hA.below (btr (below_alloc w (.cells (ra nf) 59)) (below_alloc (w.alloc (.cells (ra nf) 59)) (.cells (ra nf) 59))))
  clear hv hA
  have zr := zero_ref
  have br := build_ref
  have rs := ra_size nf
  have s1 := st_ref nf (heap_new (w.alloc (.cells (ra nf) 59)) (.cells (ra nf) 59)) (ra_size nf)
  rw [setRow_new, World.size_alloc] at s1
  have hR : (((w.alloc (.cells (ra nf) 59)).alloc (.cells (ra nf) 59))).heap[w.heap.size]? = some (.cells (ra nf) 59 (0, 0)) := (Below.heap_alloc _ _ _ (by simp)).trans (heap_new _ _)
  have s2 := st_ref nf hR (ra_size nf)
  rw [setRow_self _ _ _ _ _ hR] at s2
  have HR := hide hR
  clear hR
  go_enter Try.func29, Try.ntmps29
  go_wp2_with fail
  go_loop [16] (fun i => ∃ k : Nat, k ≤ l.length ∧ i = .int .i64 k ∧ ∀ j, j < k → okN (nth l j) = true) (fun i => l.length - (intOf i).toNat)
  case atStart => exact ⟨0, Nat.zero_le _, rfl, fun j hj => absurd hj (Nat.not_lt_zero _)⟩
  case round =>
    obtain ⟨k, hk, rfl, hall⟩ := hrel
    have HH := hide hall
    clear hall
    by_cases hlt : k < l.length
    · obtain ⟨b', off, rfl, hc⟩ := HA.out k hlt
      by_cases h1 : nth l k < 0
      · go_wp2
        exact bodyPost_ret (results_row2 Try.results29 _ _ _ _ _ rfl rfl (loadVar_ref HR.out)) rfl ⟨rfl, btr (below_alloc _ _) (below_alloc _ _)⟩
      by_cases h2 : 1048576 < nth l k
      · go_wp2
        exact bodyPost_ret (results_row2 Try.results29 _ _ _ _ _ rfl rfl (loadVar_ref HR.out)) rfl ⟨rfl, btr (below_alloc _ _) (below_alloc _ _)⟩
      have HO : Hid (okN (nth l k) = true) := by show _ = _; rw [okN_iff]; omega
      go_wp2
      go_round
      case rel => exact ⟨k + 1, by omega, by go_num, fun j hj => by
        by_cases e : j = k
        · subst e; exact HO.out
        · exact HH.out j (by omega)⟩
      case measure => simp [intOf]; omega
    · exact absurd (fun j hj => HH.out j (by omega)) HV.out

set_option maxRecDepth 100000 in
set_option maxHeartbeats 1600000 in
theorem rof_ok (oa : Option Addr) (l : List Int) (c : Nat) (w : World) (hA : At w oa l) (hl : l.length ≤ 256) (hv : Valid l) :
    Calls Try.prog 29 #[.slice oa l.length c] w fun r w' => r = .returned (.tuple #[.agg (ra (nth l)), .int .i64 0]) ∧ Below w.heap.size w w' := by
  have HV := hide hv
  have HA0 := hide hA
  have HA := hide (hA.below (btr (below_alloc w (.cells (ra nf) 59)) (below_alloc (w.alloc (.cells (ra nf) 59)) (.cells (ra nf) 59))))
  have BB := hide (btr (below_alloc w (.cells (ra nf) 59)) (below_alloc (w.alloc (.cells (ra nf) 59)) (.cells (ra nf) 59)))
  clear hv hA
  have zr := zero_ref
  have br := build_ref
  have rs := ra_size nf
  have s1 := st_ref nf (heap_new (w.alloc (.cells (ra nf) 59)) (.cells (ra nf) 59)) (ra_size nf)
  rw [setRow_new, World.size_alloc] at s1
  have hR : (((w.alloc (.cells (ra nf) 59)).alloc (.cells (ra nf) 59))).heap[w.heap.size]? = some (.cells (ra nf) 59 (0, 0)) := (Below.heap_alloc _ _ _ (by simp)).trans (heap_new _ _)
  have hC : (((w.alloc (.cells (ra nf) 59)).alloc (.cells (ra nf) 59))).heap[w.heap.size + 1]? = some (.cells (ra nf) 59 (0, 0)) := by
    have := heap_new (w.alloc (.cells (ra nf) 59)) (.cells (ra nf) 59)
    rw [World.size_alloc] at this
    exact this
  have HR := hide hR
  have HC := hide hC
  clear hR hC
  go_enter Try.func29, Try.ntmps29
  go_wp2_with fail
  go_loop [16] (fun i => ∃ k : Nat, k ≤ l.length ∧ i = .int .i64 k) (fun i => l.length - (intOf i).toNat)
  case atStart => exact ⟨0, Nat.zero_le _, rfl⟩
  case round =>
    obtain ⟨k, hk, rfl⟩ := hrel
    by_cases hlt : k < l.length
    · obtain ⟨b', off, rfl, hc⟩ := HA.out k hlt
      obtain ⟨v0, v1⟩ := (okN_iff _).1 (HV.out k hlt)
      go_wp2
      go_round
      case rel => exact ⟨k + 1, by omega, by go_num⟩
      case measure => simp [intOf]; omega
    · clear hk s1 zr br
      go_wp2_with fail
      generalize (w.alloc (Obj.cells (ra nf) 59)).alloc (Obj.cells (ra nf) 59) = W at HA BB HR HC ⊢
      go_loopw [30] (fun i wr => ∃ k : Nat, k ≤ l.length ∧ i = .int .i64 k ∧ wr.heap[w.heap.size + 1]? = some (.cells (ra (gk l k)) 59 (0, 0)) ∧ wr.heap[w.heap.size]? = some (.cells (ra nf) 59 (0, 0)) ∧ Below w.heap.size w wr) (fun i _ => l.length - (intOf i).toNat)
      case atStart => exact ⟨0, Nat.zero_le _, rfl, by rw [gk_zero]; exact HC.out, HR.out, BB.out⟩
      case round =>
        obtain ⟨j, hj, rfl, h1, h2, h3⟩ := hrel
        by_cases hjl : j < l.length
        · obtain ⟨b', off, rfl, hc⟩ := (HA0.out.below h3) j hjl
          have hj256 : j < 256 := by omega
          have hj' : (j : Int) < 256 := by omega
          have c1 := (cell_of h1 j).trans (ra_at _ j hj256)
          have f1 := frozen_of h1 j
          have H1 := hide h1
          have H2 := hide h2
          have H3 := hide h3
          clear h1 h2 h3
          go_wp2
          go_roundw
          case rel => exact ⟨j + 1, by omega, by go_num, by
              rw [Ck.heap_setCell_same H1.out, ra_set _ (gk l (j + 1)) j _ hj256 (fun i => by
                by_cases e : i = j
                · subst e; simp [gk]
                · have : (i < j + 1) = (i < j) := by simp; omega
                  simp only [gk, this, if_neg e])], by
              rw [Below.heap_setCell _ _ _ _ (by simp)]; exact H2.out, H3.out.setCell (by simp) _⟩
          case measure => simp [intOf]; omega
        · have e : j = l.length := by omega
          subst e
          rw [gk_all] at h1
          have H1 := hide h1
          have H2 := hide h2
          have H3 := hide h3
          clear h1 h2 h3
          go_wp2_with (first | (refine wpList_load_row rfl 59 _ rfl _ rfl 59 _ (0, 0) _ H1.out Try.underlying59 rfl (by rw [size_ref, ra_size]) ?_) | (refine wpList_store_row rfl 59 _ _ rfl _ _ rfl rfl 59 _ H2.out (by rw [size_ref, ra_size]) (by rw [ra_size, ra_size]) (ra_one _) ?_))
          exact bodyPost_ret (results_row2 Try.results29 _ _ _ _ _ rfl rfl (loadVar_ref (setRow_heap _ _ _ _ _ _ H2.out))) rfl ⟨rfl, below_setRow H3.out (Nat.le_refl _) _⟩
end Ck
end Go.Proofs.Ytfimfgffbfjkeaa
