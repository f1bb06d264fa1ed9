/- Layer 18's reference, over this seat's program: Put, Retire, New. -/
import Derived.Test.YtekdcfdjohlfcaaAn
import Derived.Deep.Cut
namespace Go.Proofs.Ytekdcfdjohlfcaa
open Go.ChangeShapes Go.WideShapes Go.ChangeAt Go.RowKit
namespace Ce
open Ck
open Ba (KF Bd Nw)

/-- whether one of the first k is not known -/
def unk (F : Nat → Int) (own : Int) (G : Nat → Int) (k : Nat) : Bool := (List.range k).any fun j => decide (0 < F j) && !rkn ⟨(j : Int), F j, false, false⟩ own G
theorem unk_succ (F : Nat → Int) (own : Int) (G : Nat → Int) (k : Nat) : unk F own G (k + 1) = (unk F own G k || (decide (0 < F k) && !rkn ⟨(k : Int), F k, false, false⟩ own G)) := by
  unfold unk
  rw [List.range_succ, List.any_append]
  simp
def wi (b : Bool) : Int := bif b then 2 else 0
/-- what a write tells -/
def rpR (a : Ac) (F : Nat → Int) (tl : Bool) (own : Int) (G : Nat → Int) : Int := bif rkn a own G then wi (tl || unk F own G 256) else 1
/-- the first k are gone -/
def pk (F : Nat → Int) (k : Nat) : Nat → Int := fun j => if j < k then 0 else F j
theorem pk_zero (F : Nat → Int) : pk F 0 = F := by funext j; simp [pk]
theorem pk_at (F : Nat → Int) (k : Nat) : pk F k k = F k := by simp [pk]
theorem pk_set (F : Nat → Int) (k : Nat) : upF (pk F k) k 0 = pk F (k + 1) := by
  funext j
  unfold upF pk
  by_cases e : j = k
  · subst e; simp
  · rw [if_neg e]
    by_cases h : j < k
    · rw [if_pos h, if_pos (by omega)]
    · rw [if_neg h, if_neg (by omega)]
theorem RX.ext {w : World} {R : Nat} {a : Ac} {F H : Nat → Int} {tl : Bool} (h : RX w R a F tl) (e : ∀ k, k < 256 → H k = F k) : RX w R a H tl := by
  obtain ⟨cur, h, q⟩ := h
  exact ⟨cur, h, ⟨q.sz, q.c0, q.c1, q.c2, q.c3, fun k hk => by rw [e k hk]; exact q.rd k hk, q.ct⟩⟩

set_option maxRecDepth 100000 in
set_option maxHeartbeats 1600000 in
theorem rput_ok {w : World} {R : Nat} {a : Ac} {F : Nat → Int} {tl : Bool} (h : RX w R a F tl) (t n : Int) (G : Nat → Int) :
    Calls Try.prog 69 #[.pointer (some ⟨R, 0, none⟩), .int .i64 t, .int .i64 n, .agg (ra G)] w fun r w' => r = .returned (.int .i64 (rpR a F tl t G)) ∧ RX w' R ⟨t, n, false, false⟩ nf false ∧ KF (fun k => k = R) w w' := by
  have HX := hide (h.below (Ba.below_alloc w (.cells (ra G) 39)))
  have hR := h.lt
  obtain ⟨t0, -⟩ := HX.out.cellT
  have hC : Hid ((w.alloc (.cells (ra G) 39)).heap[w.heap.size]? = some (.cells (ra G) 39 (0, 0))) := heap_new _ _
  have KN := hide (fun x u => rknown_any x t G u)
  have rs := ra_size G
  have W0 : Hid (wi (tl || unk F t G 0) = if tl = true then 2 else 0) := by show wi (tl || unk F t G 0) = _; unfold wi unk; cases tl <;> simp
  clear h
  cases tl
  · simp only [Bool.false_eq_true, if_false] at W0
    go_enter Try.func69, Try.ntmps69
    go_wp2_with fail
    go_loopw [9, 10] (fun s i wr => ∃ k : Nat, k ≤ 256 ∧ i = .int .i64 (k : Int) ∧ (∃ wv, s = .int .i64 wv ∧ Hid (wv = wi (false || unk F t G k))) ∧ RX wr R a (pk F k) false ∧ KF (fun k => k = R) w wr ∧ wr.heap[w.heap.size]? = some (.cells (ra G) 39 (0, 0))) (fun _ i _ => 256 - (intOf i).toNat)
    case atStart => exact ⟨0, by decide, rfl, ⟨_, rfl, W0.out.symm⟩, by rw [pk_zero]; exact HX.out, KF.of (Ba.below_alloc _ _), hC.out⟩
    case round =>
      clear HX hC W0
      obtain ⟨k, hk, rfl, ⟨wv, rfl, hwv⟩, rx, kf, hc⟩ := hrel
      have RXH := hide rx
      have KFH := hide kf
      have HC := hide hc
      have hsz := kf.size
      clear rx kf hc
      by_cases hlt : k < 256
      · have hlt' : (k : Int) < 256 := by omega
        obtain ⟨c0, f0⟩ := RXH.out.cellR hlt
        rw [pk_at] at c0
        have lc : (loadCellsFrom ⟨w.heap.size, 0, none⟩ 0 256 #[]).run Try.prog wr.drew = .ok (ra G) wr.drew := ld_ref (RA.of (show wr.drew.heap[w.heap.size]? = some (.cells (ra G) 39 (0, 0)) from HC.out))
        obtain ⟨LC, hLC⟩ : ∃ LC : Nat → Sem (Array Value), ∀ n, loadCellsFrom (⟨w.heap.size, 0, none⟩ : Addr) 0 n #[] = LC n := ⟨fun n => loadCellsFrom (⟨w.heap.size, 0, none⟩ : Addr) 0 n #[], fun _ => rfl⟩
        rw [hLC] at lc
        have LK : Hid (∀ u, Below wr.drew.heap.size wr.drew u → (LC 256).run Try.prog u = .ok (ra G) u) := by
          intro u b
          rw [← hLC]
          exact ld_ref (RA.of ((b.block w.heap.size (by show w.heap.size < wr.heap.size; exact heap_lt' HC.out)).trans HC.out))
        have RD : Hid (RX wr.drew R a (pk F k) false) := RXH.out
        have US := hide (unk_succ F t G k)
        have PS := hide (pk_set F k)
        by_cases hp : 0 < F k
        · have hp' : decide (0 < F k) = true := by simpa using hp
          have K1 := hide (fun u => KN.out ⟨(k : Int), F k, false, false⟩ u)
          obtain ⟨kb, hkb⟩ : ∃ kb, rkn ⟨(k : Int), F k, false, false⟩ t G = kb := ⟨_, rfl⟩
          rw [hkb] at K1 US
          rw [hp'] at US
          unfold acV at K1
          clear hkb hp
          cases kb
          · have NW := hide (show (2 : Int) = wi (false || unk F t G (k + 1)) from by rw [US.out]; simp [wi])
            generalize ra G = AG at *
            generalize F k = fk at *
            go_wp2_with fail
            go_region_held3 (fun w' => w'.cell? ⟨R, 4 + k, none⟩ = some (.int .i64 fk) ∧ (LC 256).run Try.prog w' = .ok AG w')
              (first | (go_keep; done) | (go_split_ands; refine ⟨cellB ?_ b1, LK.out _ b1⟩; assumption))
              ((go_at_call 82; refine (K1.out _).mono ?_; rintro r w1 ⟨rfl, b1⟩))
            have R1 := RD.out.below b1
            obtain ⟨d0, d1⟩ := R1.cellR hlt
            have R2 := hide (R1.setRead hlt 0)
            have K2 := hide (((KFH.out.then (Ba.bdrew1 wr)).then b1).set (q := R) rfl (4 + k) (.int .i64 0))
            have H2 : Hid ((w1.setCell ⟨R, 4 + k, none⟩ (.int .i64 0)).heap[w.heap.size]? = some (.cells AG 39 (0, 0))) := by
              rw [Below.heap_setCell _ _ _ _ (by show w.heap.size ≠ R; omega)]
              exact (b1.block w.heap.size (heap_lt' HC.out)).trans HC.out
            clear R1
            go_wp2_with fail
            go_roundw
            case rel => exact ⟨k + 1, by omega, by go_num, ⟨2, rfl, NW.out⟩, by rw [← PS.out]; exact R2.out, K2.out, H2.out⟩
            case measure => simp [intOf]; omega
          · have NW := hide (show wv = wi (false || unk F t G (k + 1)) from by rw [US.out, hwv.out]; simp)
            generalize ra G = AG at *
            generalize F k = fk at *
            go_wp2_with fail
            go_region_held3 (fun w' => w'.cell? ⟨R, 4 + k, none⟩ = some (.int .i64 fk) ∧ (LC 256).run Try.prog w' = .ok AG w')
              (first | (go_keep; done) | (go_split_ands; refine ⟨cellB ?_ b1, LK.out _ b1⟩; assumption))
              ((go_at_call 82; refine (K1.out _).mono ?_; rintro r w1 ⟨rfl, b1⟩))
            have R1 := RD.out.below b1
            obtain ⟨d0, d1⟩ := R1.cellR hlt
            have R2 := hide (R1.setRead hlt 0)
            have K2 := hide (((KFH.out.then (Ba.bdrew1 wr)).then b1).set (q := R) rfl (4 + k) (.int .i64 0))
            have H2 : Hid ((w1.setCell ⟨R, 4 + k, none⟩ (.int .i64 0)).heap[w.heap.size]? = some (.cells AG 39 (0, 0))) := by
              rw [Below.heap_setCell _ _ _ _ (by show w.heap.size ≠ R; omega)]
              exact (b1.block w.heap.size (heap_lt' HC.out)).trans HC.out
            clear R1
            go_wp2_with fail
            go_roundw
            case rel => exact ⟨k + 1, by omega, by go_num, ⟨wv, rfl, NW.out⟩, by rw [← PS.out]; exact R2.out, K2.out, H2.out⟩
            case measure => simp [intOf]; omega
        · have hp' : decide (0 < F k) = false := by simpa using hp
          have NW := hide (show wv = wi (false || unk F t G (k + 1)) from by rw [US.out, hwv.out, hp']; simp)
          have R2 := hide (fun q => (RXH.out.below (bdrew wr q)).setRead hlt 0)
          have K2 := hide (fun q => (KFH.out.then (bdrew wr q)).set (q := R) rfl (4 + k) (.int .i64 0))
          have H2 : Hid (∀ q, ((wr.drewN q).setCell ⟨R, 4 + k, none⟩ (.int .i64 0)).heap[w.heap.size]? = some (.cells (ra G) 39 (0, 0))) := by
            intro q
            rw [Below.heap_setCell _ _ _ _ (by show w.heap.size ≠ R; omega)]
            exact HC.out
          clear hp
          generalize ra G = AG at *
          generalize F k = fk at *
          go_wp2_with fail
          go_quiet (fail)
          go_wp2_with fail
          go_roundw
          case rel => exact ⟨k + 1, by omega, by go_num, ⟨wv, rfl, NW.out⟩, by rw [← PS.out]; exact R2.out _, K2.out _, H2.out _⟩
          case measure => simp [intOf]; omega
      · obtain rfl : k = 256 := by omega
        have K1 := hide (fun u => KN.out a u)
        obtain ⟨kb, hkb⟩ : ∃ kb, rkn a t G = kb := ⟨_, rfl⟩
        rw [hkb] at K1
        unfold acV at K1
        have HRR : Hid (rpR a F false t G = bif kb then wv else 1) := by
          show rpR a F false t G = _
          unfold rpR
          rw [hkb, ← hwv.out]
        obtain ⟨z0, z1, z2, z3, -⟩ := RXH.out.cellA
        have lc : (loadCellsFrom ⟨w.heap.size, 0, none⟩ 0 256 #[]).run Try.prog wr.drew = .ok (ra G) wr.drew := ld_ref (RA.of (show wr.drew.heap[w.heap.size]? = some (.cells (ra G) 39 (0, 0)) from HC.out))
        obtain ⟨LC, hLC⟩ : ∃ LC : Nat → Sem (Array Value), ∀ n, loadCellsFrom (⟨w.heap.size, 0, none⟩ : Addr) 0 n #[] = LC n := ⟨fun n => loadCellsFrom (⟨w.heap.size, 0, none⟩ : Addr) 0 n #[], fun _ => rfl⟩
        rw [hLC] at lc
        have LK : Hid (∀ u, Below wr.drew.heap.size wr.drew u → (LC 256).run Try.prog u = .ok (ra G) u) := by
          intro u b
          rw [← hLC]
          exact ld_ref (RA.of ((b.block w.heap.size (by show w.heap.size < wr.heap.size; exact heap_lt' HC.out)).trans HC.out))
        clear hkb KN hwv
        generalize ra G = AG at *
        cases kb
        all_goals
          go_wp2_with fail
          go_region_held3 (fun w' => w'.cell? ⟨R, 0, none⟩ = some (.int .i64 a.tid) ∧ w'.cell? ⟨R, 1, none⟩ = some (.int .i64 a.n) ∧ w'.cell? ⟨R, 2, none⟩ = some (.bool a.no) ∧ w'.cell? ⟨R, 3, none⟩ = some (.bool a.tl) ∧ (LC 256).run Try.prog w' = .ok AG w')
            (first | (go_keep; done) | (go_split_ands; refine ⟨cellB ?_ b1, cellB ?_ b1, cellB ?_ b1, cellB ?_ b1, LK.out _ b1⟩ <;> assumption))
            ((go_at_call 82; refine (K1.out _).mono ?_; rintro r w1 ⟨rfl, b1⟩))
          have R1 := RXH.out.below (btr (Ba.bdrew1 wr) b1)
          have K2 := (KFH.out.then (Ba.bdrew1 wr)).then b1
          obtain ⟨e0, e1⟩ := R1.cellT
          have R2 := R1.setTl false
          have K3 := K2.set (q := R) rfl 260 (.bool false)
          obtain ⟨x0, x1, x2, x3, xf⟩ := R2.cellA
          have xf0 := xf 0
          have xf1 := xf 1
          have xf2 := xf 2
          have xf3 := xf 3
          have R3 := hide ((R2.setAc t n false false).ext (H := nf) (fun k hk => by simp [nf, pk, hk]))
          have K4 := hide ((((K3.set (q := R) rfl 0 (.int .i64 t)).set (q := R) rfl 1 (.int .i64 n)).set (q := R) rfl 2 (.bool false)).set (q := R) rfl 3 (.bool false))
          clear R1 R2 K2 K3 xf
          go_wp2_with fail
          go_ret
          exact ⟨ret_int (by rw [HRR.out]; rfl), R3.out, K4.out⟩
  · simp only [if_true] at W0
    go_enter Try.func69, Try.ntmps69
    go_wp2_with fail
    go_loopw [9, 10] (fun s i wr => ∃ k : Nat, k ≤ 256 ∧ i = .int .i64 (k : Int) ∧ (∃ wv, s = .int .i64 wv ∧ Hid (wv = wi (true || unk F t G k))) ∧ RX wr R a (pk F k) true ∧ KF (fun k => k = R) w wr ∧ wr.heap[w.heap.size]? = some (.cells (ra G) 39 (0, 0))) (fun _ i _ => 256 - (intOf i).toNat)
    case atStart => exact ⟨0, by decide, rfl, ⟨_, rfl, W0.out.symm⟩, by rw [pk_zero]; exact HX.out, KF.of (Ba.below_alloc _ _), hC.out⟩
    case round =>
      clear HX hC W0
      obtain ⟨k, hk, rfl, ⟨wv, rfl, hwv⟩, rx, kf, hc⟩ := hrel
      have RXH := hide rx
      have KFH := hide kf
      have HC := hide hc
      have hsz := kf.size
      clear rx kf hc
      by_cases hlt : k < 256
      · have hlt' : (k : Int) < 256 := by omega
        obtain ⟨c0, f0⟩ := RXH.out.cellR hlt
        rw [pk_at] at c0
        have lc : (loadCellsFrom ⟨w.heap.size, 0, none⟩ 0 256 #[]).run Try.prog wr.drew = .ok (ra G) wr.drew := ld_ref (RA.of (show wr.drew.heap[w.heap.size]? = some (.cells (ra G) 39 (0, 0)) from HC.out))
        obtain ⟨LC, hLC⟩ : ∃ LC : Nat → Sem (Array Value), ∀ n, loadCellsFrom (⟨w.heap.size, 0, none⟩ : Addr) 0 n #[] = LC n := ⟨fun n => loadCellsFrom (⟨w.heap.size, 0, none⟩ : Addr) 0 n #[], fun _ => rfl⟩
        rw [hLC] at lc
        have LK : Hid (∀ u, Below wr.drew.heap.size wr.drew u → (LC 256).run Try.prog u = .ok (ra G) u) := by
          intro u b
          rw [← hLC]
          exact ld_ref (RA.of ((b.block w.heap.size (by show w.heap.size < wr.heap.size; exact heap_lt' HC.out)).trans HC.out))
        have RD : Hid (RX wr.drew R a (pk F k) true) := RXH.out
        have US := hide (unk_succ F t G k)
        have PS := hide (pk_set F k)
        by_cases hp : 0 < F k
        · have hp' : decide (0 < F k) = true := by simpa using hp
          have K1 := hide (fun u => KN.out ⟨(k : Int), F k, false, false⟩ u)
          obtain ⟨kb, hkb⟩ : ∃ kb, rkn ⟨(k : Int), F k, false, false⟩ t G = kb := ⟨_, rfl⟩
          rw [hkb] at K1 US
          rw [hp'] at US
          unfold acV at K1
          clear hkb hp
          cases kb
          · have NW := hide (show (2 : Int) = wi (true || unk F t G (k + 1)) from by rw [US.out]; simp [wi])
            generalize ra G = AG at *
            generalize F k = fk at *
            go_wp2_with fail
            go_region_held3 (fun w' => w'.cell? ⟨R, 4 + k, none⟩ = some (.int .i64 fk) ∧ (LC 256).run Try.prog w' = .ok AG w')
              (first | (go_keep; done) | (go_split_ands; refine ⟨cellB ?_ b1, LK.out _ b1⟩; assumption))
              ((go_at_call 82; refine (K1.out _).mono ?_; rintro r w1 ⟨rfl, b1⟩))
            have R1 := RD.out.below b1
            obtain ⟨d0, d1⟩ := R1.cellR hlt
            have R2 := hide (R1.setRead hlt 0)
            have K2 := hide (((KFH.out.then (Ba.bdrew1 wr)).then b1).set (q := R) rfl (4 + k) (.int .i64 0))
            have H2 : Hid ((w1.setCell ⟨R, 4 + k, none⟩ (.int .i64 0)).heap[w.heap.size]? = some (.cells AG 39 (0, 0))) := by
              rw [Below.heap_setCell _ _ _ _ (by show w.heap.size ≠ R; omega)]
              exact (b1.block w.heap.size (heap_lt' HC.out)).trans HC.out
            clear R1
            go_wp2_with fail
            go_roundw
            case rel => exact ⟨k + 1, by omega, by go_num, ⟨2, rfl, NW.out⟩, by rw [← PS.out]; exact R2.out, K2.out, H2.out⟩
            case measure => simp [intOf]; omega
          · have NW := hide (show wv = wi (true || unk F t G (k + 1)) from by rw [US.out, hwv.out]; simp)
            generalize ra G = AG at *
            generalize F k = fk at *
            go_wp2_with fail
            go_region_held3 (fun w' => w'.cell? ⟨R, 4 + k, none⟩ = some (.int .i64 fk) ∧ (LC 256).run Try.prog w' = .ok AG w')
              (first | (go_keep; done) | (go_split_ands; refine ⟨cellB ?_ b1, LK.out _ b1⟩; assumption))
              ((go_at_call 82; refine (K1.out _).mono ?_; rintro r w1 ⟨rfl, b1⟩))
            have R1 := RD.out.below b1
            obtain ⟨d0, d1⟩ := R1.cellR hlt
            have R2 := hide (R1.setRead hlt 0)
            have K2 := hide (((KFH.out.then (Ba.bdrew1 wr)).then b1).set (q := R) rfl (4 + k) (.int .i64 0))
            have H2 : Hid ((w1.setCell ⟨R, 4 + k, none⟩ (.int .i64 0)).heap[w.heap.size]? = some (.cells AG 39 (0, 0))) := by
              rw [Below.heap_setCell _ _ _ _ (by show w.heap.size ≠ R; omega)]
              exact (b1.block w.heap.size (heap_lt' HC.out)).trans HC.out
            clear R1
            go_wp2_with fail
            go_roundw
            case rel => exact ⟨k + 1, by omega, by go_num, ⟨wv, rfl, NW.out⟩, by rw [← PS.out]; exact R2.out, K2.out, H2.out⟩
            case measure => simp [intOf]; omega
        · have hp' : decide (0 < F k) = false := by simpa using hp
          have NW := hide (show wv = wi (true || unk F t G (k + 1)) from by rw [US.out, hwv.out, hp']; simp)
          have R2 := hide (fun q => (RXH.out.below (bdrew wr q)).setRead hlt 0)
          have K2 := hide (fun q => (KFH.out.then (bdrew wr q)).set (q := R) rfl (4 + k) (.int .i64 0))
          have H2 : Hid (∀ q, ((wr.drewN q).setCell ⟨R, 4 + k, none⟩ (.int .i64 0)).heap[w.heap.size]? = some (.cells (ra G) 39 (0, 0))) := by
            intro q
            rw [Below.heap_setCell _ _ _ _ (by show w.heap.size ≠ R; omega)]
            exact HC.out
          clear hp
          generalize ra G = AG at *
          generalize F k = fk at *
          go_wp2_with fail
          go_quiet (fail)
          go_wp2_with fail
          go_roundw
          case rel => exact ⟨k + 1, by omega, by go_num, ⟨wv, rfl, NW.out⟩, by rw [← PS.out]; exact R2.out _, K2.out _, H2.out _⟩
          case measure => simp [intOf]; omega
      · obtain rfl : k = 256 := by omega
        have K1 := hide (fun u => KN.out a u)
        obtain ⟨kb, hkb⟩ : ∃ kb, rkn a t G = kb := ⟨_, rfl⟩
        rw [hkb] at K1
        unfold acV at K1
        have HRR : Hid (rpR a F true t G = bif kb then wv else 1) := by
          show rpR a F true t G = _
          unfold rpR
          rw [hkb, ← hwv.out]
        obtain ⟨z0, z1, z2, z3, -⟩ := RXH.out.cellA
        have lc : (loadCellsFrom ⟨w.heap.size, 0, none⟩ 0 256 #[]).run Try.prog wr.drew = .ok (ra G) wr.drew := ld_ref (RA.of (show wr.drew.heap[w.heap.size]? = some (.cells (ra G) 39 (0, 0)) from HC.out))
        obtain ⟨LC, hLC⟩ : ∃ LC : Nat → Sem (Array Value), ∀ n, loadCellsFrom (⟨w.heap.size, 0, none⟩ : Addr) 0 n #[] = LC n := ⟨fun n => loadCellsFrom (⟨w.heap.size, 0, none⟩ : Addr) 0 n #[], fun _ => rfl⟩
        rw [hLC] at lc
        have LK : Hid (∀ u, Below wr.drew.heap.size wr.drew u → (LC 256).run Try.prog u = .ok (ra G) u) := by
          intro u b
          rw [← hLC]
          exact ld_ref (RA.of ((b.block w.heap.size (by show w.heap.size < wr.heap.size; exact heap_lt' HC.out)).trans HC.out))
        clear hkb KN hwv
        generalize ra G = AG at *
        cases kb
        all_goals
          go_wp2_with fail
          go_region_held3 (fun w' => w'.cell? ⟨R, 0, none⟩ = some (.int .i64 a.tid) ∧ w'.cell? ⟨R, 1, none⟩ = some (.int .i64 a.n) ∧ w'.cell? ⟨R, 2, none⟩ = some (.bool a.no) ∧ w'.cell? ⟨R, 3, none⟩ = some (.bool a.tl) ∧ (LC 256).run Try.prog w' = .ok AG w')
            (first | (go_keep; done) | (go_split_ands; refine ⟨cellB ?_ b1, cellB ?_ b1, cellB ?_ b1, cellB ?_ b1, LK.out _ b1⟩ <;> assumption))
            ((go_at_call 82; refine (K1.out _).mono ?_; rintro r w1 ⟨rfl, b1⟩))
          have R1 := RXH.out.below (btr (Ba.bdrew1 wr) b1)
          have K2 := (KFH.out.then (Ba.bdrew1 wr)).then b1
          obtain ⟨e0, e1⟩ := R1.cellT
          have R2 := R1.setTl false
          have K3 := K2.set (q := R) rfl 260 (.bool false)
          obtain ⟨x0, x1, x2, x3, xf⟩ := R2.cellA
          have xf0 := xf 0
          have xf1 := xf 1
          have xf2 := xf 2
          have xf3 := xf 3
          have R3 := hide ((R2.setAc t n false false).ext (H := nf) (fun k hk => by simp [nf, pk, hk]))
          have K4 := hide ((((K3.set (q := R) rfl 0 (.int .i64 t)).set (q := R) rfl 1 (.int .i64 n)).set (q := R) rfl 2 (.bool false)).set (q := R) rfl 3 (.bool false))
          clear R1 R2 K2 K3 xf
          go_wp2_with fail
          go_ret
          exact ⟨ret_int (by rw [HRR.out]; rfl), R3.out, K4.out⟩
end Ce
end Go.Proofs.Ytekdcfdjohlfcaa
