/- The reference's slots: same, over this seat's program. -/
import Derived.Test.YtekdcfdjohlfcaaTq
namespace Go.Proofs.Ytekdcfdjohlfcaa
open Go.ChangeShapes Go.WideShapes Go.ChangeAt Go.RowKit
namespace Sl
open Ck
open Ba (KF Bd Nw)

theorem rlist_l {b off : Nat} (l : List Int) (n : Nat) (F : Nat → Int) (w : World) (h : RA w b off F) (hn : l.length = n) (hs : ∀ k, k < 256 → nth l k = F k) (hv : Valid l) (hc : Canon l) (hl : l.length ≤ 256) :
    Calls Try.prog 41 #[.pointer (some ⟨b, off, none⟩)] w fun r w' => ∃ oa c, r = .returned (.slice oa n c) ∧ Ck.At w' oa l ∧ Below w.heap.size w w' := by
  subst hn
  refine (rlist_any b off F w h (fun k hk => by rw [← hs k hk]; exact nth_nonneg hv k)).mono ?_
  rintro r w' ⟨L, oa, c, rfl, hat, hlen, hcan, hnth, hb⟩
  have e : L = l := canon_eq hcan hc fun k => by
    by_cases q : k < 256
    · rw [hnth k q, hs k q]
    · rw [nth_out _ _ (by omega), nth_out _ _ (by omega)]
  subst e
  exact ⟨oa, c, rfl, hat, hb⟩
theorem fe_ra {w : World} {b : Nat} {F : Nat → Int} {x : Bool} {t : TypeId} (h : w.heap[b]? = some (.cells (fe F x) t (0, 0))) : RA w b 0 F := by
  intro k hk
  rw [Nat.zero_add]
  exact ⟨(cell_of h k).trans (fe_at F x k hk), frozen_of h k⟩
set_option maxRecDepth 100000 in
theorem same_no (F : Nat → Int) (w : World) :
    Calls Try.prog 12 #[.pointer none, .agg (fe F false)] w fun r w' => r = .returned (.bool true) ∧ Below w.heap.size w w' := by
  have c256 : (w.alloc (.cells (fe F false) 44)).cell? ⟨w.heap.size, 256, none⟩ = some (.bool false) := (cell_of (heap_new w _) 256).trans (fe_last F false)
  have hrs := fe_size F false
  generalize fe F false = R at *
  go_enter Try.func12, Try.ntmps12
  go_wp2_with fail
  exact bodyPost_ret (results_tmp Try.results12 _ _ _) rfl ⟨rfl, below_alloc _ _⟩
set_option maxRecDepth 100000 in
set_option maxHeartbeats 800000 in
theorem same_yes (A : Nat) (l : List Int) (F : Nat → Int) (w : World) (h : CK w A l) (hs : ∀ k, k < 256 → nth l k = F k) (hv : Valid l) (hc : Canon l) (hl : l.length ≤ 256) :
    Calls Try.prog 12 #[.pointer (some ⟨A, 0, none⟩), .agg (fe F true)] w fun r w' => r = .returned (.bool true) ∧ Below w.heap.size w w' := by
  have c256 : (w.alloc (.cells (fe F true) 44)).cell? ⟨w.heap.size, 256, none⟩ = some (.bool true) := (cell_of (heap_new w _) 256).trans (fe_last F true)
  have LD := hide (ldv_ref (fe_ra (heap_new w (.cells (fe F true) 44))))
  have zc := zero_ref
  have b1 := btr (below_alloc w (.cells (fe F true) 44)) (below_alloc _ (.cells (ra F) 39))
  have hB : ((w.alloc (.cells (fe F true) 44)).alloc (.cells (ra F) 39)).heap[w.heap.size + 1]? = some (.cells (ra F) 39 (0, 0)) := by
    have := heap_new (w.alloc (.cells (fe F true) 44)) (.cells (ra F) 39)
    rw [World.size_alloc] at this
    exact this
  have stc := st_ref F (heap_new (w.alloc (.cells (fe F true) 44)) (.cells (ra nf) 39)) (ra_size nf)
  rw [setRow_new, World.size_alloc] at stc
  have HI := hide (And.intro (CK.below h b1) (And.intro hs (And.intro hv (And.intro hc (And.intro hl (And.intro b1 (RA.of hB)))))))
  have hrs := fe_size F true
  have as_ := ra_size F
  have z0s := ra_size nf
  have hlt : A < w.heap.size := World.block_lt_of_cell? w _ h.choose_spec.choose_spec.choose_spec.1
  clear h hs hv hc hl b1 hB
  generalize fe F true = R at *
  generalize ra F = V at *
  generalize ra nf = Z0 at *
  go_enter Try.func12, Try.ntmps12
  go_wp2_with (refine wpL_load rfl 39 _ rfl _ _ rfl LD.out ?_)
  obtain ⟨n, hn⟩ : ∃ n, l.length = n := ⟨_, rfl⟩
  refine (list_is A l n _ HI.out.1 hn).mono ?_
  rintro r w2 ⟨o1, rfl, a1, b2⟩
  have ra2 : RA w2 (w.heap.size + 1) 0 F := RA.below HI.out.2.2.2.2.2.2 b2
  go_wp2_with fail
  refine (rlist_l l n F _ ra2 hn HI.out.2.1 HI.out.2.2.1 HI.out.2.2.2.1 HI.out.2.2.2.2.1).mono ?_
  rintro r w3 ⟨o2, c2, rfl, a2, b3⟩
  go_wp2_with fail
  refine (ints_b o1 o2 l l n n n c2 true (by simp) hn hn w3 (a1.below b3) a2 (by have := HI.out.2.2.2.2.1; omega) (by have := HI.out.2.2.2.2.1; omega)).mono ?_
  rintro r w4 ⟨rfl, b4⟩
  go_wp2_with fail
  exact bodyPost_ret (results_tmp Try.results12 _ _ _) rfl ⟨rfl, btr (btr (btr HI.out.2.2.2.2.2.1 b2) b3) b4⟩
end Sl
end Go.Proofs.Ytekdcfdjohlfcaa
