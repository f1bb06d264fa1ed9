/- Layer 18's reference, over this seat's program: Read. -/
import Derived.Test.YtekdcfdjohlfcaaAm
namespace Go.Proofs.Ytekdcfdjohlfcaa
open Go.ChangeShapes Go.WideShapes Go.ChangeAt Go.RowKit
namespace Ce
open Ck
open Ba (KF Bd Nw)

/-- what a read tells -/
def rrR (a : Ac) (own : Int) (G : Nat → Int) : Int := if rkn a own G = true then 0 else 1

theorem heap_lt' {w : World} {b : Nat} {o : Obj} (h : w.heap[b]? = some o) : b < w.heap.size := (Array.getElem?_eq_some_iff.1 h).1
theorem cellB {w w' : World} {a : Addr} {v : Value} (h : w.cell? a = some v) (b : Below w.heap.size w w') : w'.cell? a = some v := (b.cell (World.block_lt_of_cell? w _ h)).trans h
set_option maxRecDepth 100000 in
set_option maxHeartbeats 800000 in
theorem rread_ok {w : World} {R : Nat} {a : Ac} {F : Nat → Int} {tl : Bool} (h : RX w R a F tl) (t : Nat) (ht : t < 256) (n : Int) (G : Nat → Int) :
    Calls Try.prog 70 #[.pointer (some ⟨R, 0, none⟩), .int .i64 (t : Int), .int .i64 n, .agg (ra G)] w fun r w' => r = .returned (.int .i64 (rrR a (t : Int) G)) ∧ RX w' R a (upF (ff F (t : Int) G 256) t n) tl ∧ KF (fun k => k = R) w w' := by
  have HX := hide (h.below (Ba.below_alloc w (.cells (ra G) 39)))
  have hR := h.lt
  have hC : Hid ((w.alloc (.cells (ra G) 39)).heap[w.heap.size]? = some (.cells (ra G) 39 (0, 0))) := heap_new _ _
  have KN := hide (fun x u => rknown_any x (t : Int) G u)
  have rs := ra_size G
  clear h
  go_enter Try.func70, Try.ntmps70
  go_wp2_with fail
  go_loopw [9] (fun i wr => ∃ k : Nat, k ≤ 256 ∧ i = .int .i64 (k : Int) ∧ RX wr R a (ff F (t : Int) G k) tl ∧ KF (fun k => k = R) w wr ∧ wr.heap[w.heap.size]? = some (.cells (ra G) 39 (0, 0))) (fun i _ => 256 - (intOf i).toNat)
  case atStart => exact ⟨0, by decide, rfl, by rw [ff_zero]; exact HX.out, KF.of (Ba.below_alloc _ _), hC.out⟩
  case round =>
    clear HX hC
    obtain ⟨k, hk, rfl, rx, kf, hc⟩ := hrel
    have RXH := hide rx
    have KFH := hide kf
    have HC := hide hc
    have hsz := kf.size
    clear rx kf hc
    by_cases hlt : k < 256
    · have hlt' : (k : Int) < 256 := by omega
      obtain ⟨c0, f0⟩ := RXH.out.cellR hlt
      rw [ff_at] at c0
      have lc : (loadCellsFrom ⟨w.heap.size, 0, none⟩ 0 256 #[]).run Try.prog wr.drew = .ok (ra G) wr.drew := ld_ref (RA.of (show wr.drew.heap[w.heap.size]? = some (.cells (ra G) 39 (0, 0)) from HC.out))
      obtain ⟨LC, hLC⟩ : ∃ LC : Nat → Sem (Array Value), ∀ n, loadCellsFrom (⟨w.heap.size, 0, none⟩ : Addr) 0 n #[] = LC n := ⟨fun n => loadCellsFrom (⟨w.heap.size, 0, none⟩ : Addr) 0 n #[], fun _ => rfl⟩
      rw [hLC] at lc
      have LK : Hid (∀ u, Below wr.drew.heap.size wr.drew u → (LC 256).run Try.prog u = .ok (ra G) u) := by
        intro u b
        rw [← hLC]
        exact ld_ref (RA.of ((b.block w.heap.size (by show w.heap.size < wr.heap.size; exact heap_lt' HC.out)).trans HC.out))
      by_cases hp : 0 < F k
      · have hp' : decide (0 < F k) = true := by simpa using hp
        have K1 := hide (fun u => KN.out ⟨(k : Int), F k, false, false⟩ u)
        obtain ⟨kb, hkb⟩ : ∃ kb, rkn ⟨(k : Int), F k, false, false⟩ (t : Int) G = kb := ⟨_, rfl⟩
        rw [hkb] at K1
        have HKB := hide hkb
        have HP := hide hp
        unfold acV at K1
        clear hkb hp
        have RD : Hid (RX wr.drew R a (ff F (t : Int) G k) tl) := RXH.out
        cases kb
        · have E1 : Hid (ff F (t : Int) G (k + 1) = ff F (t : Int) G k) := ff_same (fun q => by rw [HKB.out] at q; exact absurd q.2 (by decide))
          generalize ra G = AG at *
          generalize F k = fk at *
          go_wp2_with fail
          go_region_held3 (fun w' => w'.cell? ⟨R, 4 + k, none⟩ = some (.int .i64 fk) ∧ (LC 256).run Try.prog w' = .ok AG w')
            (first | (go_keep; done) | (go_split_ands; refine ⟨cellB ?_ b1, LK.out _ b1⟩; assumption))
            ((go_at_call 82; refine (K1.out _).mono ?_; rintro r w1 ⟨rfl, b1⟩))
          have R1 := hide (RD.out.below b1)
          have K2 := hide ((KFH.out.then (Ba.bdrew1 wr)).then b1)
          have H2 := hide ((b1.block w.heap.size (heap_lt' HC.out)).trans HC.out)
          go_wp2_with fail
          go_roundw
          case rel => exact ⟨k + 1, by omega, by go_num, by rw [E1.out]; exact R1.out, K2.out, H2.out⟩
          case measure => simp [intOf]; omega
        · have E1 : Hid (upF (ff F (t : Int) G k) k 0 = ff F (t : Int) G (k + 1)) := ff_set HP.out HKB.out
          generalize ra G = AG at *
          generalize F k = fk at *
          go_wp2_with fail
          go_region_held3 (fun w' => w'.cell? ⟨R, 4 + k, none⟩ = some (.int .i64 fk) ∧ (LC 256).run Try.prog w' = .ok AG w')
            (first | (go_keep; done) | (go_split_ands; refine ⟨cellB ?_ b1, LK.out _ b1⟩; assumption))
            ((go_at_call 82; refine (K1.out _).mono ?_; rintro r w1 ⟨rfl, b1⟩))
          have R1 := RD.out.below b1
          obtain ⟨d0, d1⟩ := R1.cellR hlt
          have R2 := hide (R1.setRead hlt 0)
          have K2 := hide (((KFH.out.then (Ba.bdrew1 wr)).then b1).set (q := R) rfl (4 + k) (.int .i64 0))
          have H2 : Hid ((w1.setCell ⟨R, 4 + k, none⟩ (.int .i64 0)).heap[w.heap.size]? = some (.cells AG 39 (0, 0))) := by
            rw [Below.heap_setCell _ _ _ _ (by show w.heap.size ≠ R; omega)]
            exact (b1.block w.heap.size (heap_lt' HC.out)).trans HC.out
          clear R1
          go_wp2_with fail
          go_roundw
          case rel => exact ⟨k + 1, by omega, by go_num, by rw [← E1.out]; exact R2.out, K2.out, H2.out⟩
          case measure => simp [intOf]; omega
      · have hp' : decide (0 < F k) = false := by simpa using hp
        have E1 : Hid (ff F (t : Int) G (k + 1) = ff F (t : Int) G k) := ff_same (fun q => hp q.1)
        clear hp
        generalize ra G = AG at *
        generalize F k = fk at *
        go_wp2_with fail
        go_quiet (fail)
        go_wp2_with fail
        go_roundw
        case rel => exact ⟨k + 1, by omega, by go_num, by rw [E1.out]; exact RXH.out.below (bdrew _ _), KFH.out.then (bdrew _ _), HC.out⟩
        case measure => simp [intOf]; omega
    · obtain rfl : k = 256 := by omega
      obtain ⟨c0, f0⟩ := RXH.out.cellR ht
      have RS := hide (RXH.out.setRead ht n)
      have KS := hide (KFH.out.set (q := R) rfl (4 + t) (.int .i64 n))
      have HS : Hid ((wr.setCell ⟨R, 4 + t, none⟩ (.int .i64 n)).heap[w.heap.size]? = some (.cells (ra G) 39 (0, 0))) := by
        rw [Below.heap_setCell _ _ _ _ (by show w.heap.size ≠ R; omega)]
        exact HC.out
      have htl : (t : Int) < 256 := by omega
      have K1 := hide (fun u => KN.out a u)
      obtain ⟨kb, hkb⟩ : ∃ kb, rkn a (t : Int) G = kb := ⟨_, rfl⟩
      rw [hkb] at K1
      unfold acV at K1
      have HRR : Hid (rrR a (t : Int) G = if kb = true then 0 else 1) := by show rrR a (t : Int) G = _; unfold rrR; rw [hkb]
      clear hkb RXH KFH HC KN
      cases kb
      all_goals
        go_wp2_with fail
        generalize wr.setCell ⟨R, 4 + t, none⟩ (.int .i64 n) = W2 at *
        obtain ⟨z0, z1, z2, z3, -⟩ := RS.out.cellA
        have lc : (loadCellsFrom ⟨w.heap.size, 0, none⟩ 0 256 #[]).run Try.prog W2.drew = .ok (ra G) W2.drew := ld_ref (RA.of (show W2.drew.heap[w.heap.size]? = some (.cells (ra G) 39 (0, 0)) from HS.out))
        obtain ⟨LC, hLC⟩ : ∃ LC : Nat → Sem (Array Value), ∀ n, loadCellsFrom (⟨w.heap.size, 0, none⟩ : Addr) 0 n #[] = LC n := ⟨fun n => loadCellsFrom (⟨w.heap.size, 0, none⟩ : Addr) 0 n #[], fun _ => rfl⟩
        rw [hLC] at lc
        have LK : Hid (∀ u, Below W2.drew.heap.size W2.drew u → (LC 256).run Try.prog u = .ok (ra G) u) := by
          intro u b
          rw [← hLC]
          exact ld_ref (RA.of ((b.block w.heap.size (by show w.heap.size < W2.heap.size; exact heap_lt' HS.out)).trans HS.out))
        generalize ra G = AG at *
        clear c0 f0
        go_region_held3 (fun w' => w'.cell? ⟨R, 0, none⟩ = some (.int .i64 a.tid) ∧ w'.cell? ⟨R, 1, none⟩ = some (.int .i64 a.n) ∧ w'.cell? ⟨R, 2, none⟩ = some (.bool a.no) ∧ w'.cell? ⟨R, 3, none⟩ = some (.bool a.tl) ∧ (LC 256).run Try.prog w' = .ok AG w')
          (first | (go_keep; done) | (go_split_ands; refine ⟨cellB ?_ b1, cellB ?_ b1, cellB ?_ b1, cellB ?_ b1, LK.out _ b1⟩ <;> assumption))
          ((go_at_call 82; refine (K1.out _).mono ?_; rintro r w1 ⟨rfl, b1⟩))
        have R1 := hide (RS.out.below (btr (Ba.bdrew1 W2) b1))
        have K2 := hide ((KS.out.then (Ba.bdrew1 W2)).then b1)
        go_wp2_with fail
        go_ret
        exact ⟨ret_int (by rw [HRR.out]; rfl), R1.out, K2.out⟩
end Ce
end Go.Proofs.Ytekdcfdjohlfcaa
