/- Layer 20's reference, over this seat's program: Of, walked. -/
import Derived.Test.YtbceiakihplbcaaTa3
namespace Go.Proofs.Ytbceiakihplbcaa
open Go.ChangeShapes Go.WideShapes Go.ChangeAt Go.RowKit
namespace Rt
open Ck

set_option maxRecDepth 100000 in
set_option maxHeartbeats 6400000 in
theorem rof20_any (tid : Int) (oa ob : Option Addr) (c d n m : Nat) (Fs Gs : List (Nat → Int)) (hn : Fs.length = n) (hm : Gs.length = m) (w : World) (hA : RAt w oa Fs) (hB : RAt w ob Gs) (hl : n ≤ 100000) (hl2 : m ≤ 100000) :
    Calls Try.prog 11 #[.int .i64 tid, .slice oa n c, .slice ob m d] w fun r w' => r = .returned (ofV (rcut tid Fs Gs)) ∧ Below w.heap.size w w' := by
  unfold ofV
  by_cases h0 : tid < 0
  · have e : rcut tid Fs Gs = none := by unfold rcut; rw [if_neg (by omega)]
    rw [e]
    clear hA hB e
    go_enter Try.func11, Try.ntmps11
    go_wp2_with fail
    go_ret2
    exact ⟨rfl, Below.refl _ _⟩
  by_cases h1 : 255 < tid
  · have e : rcut tid Fs Gs = none := by unfold rcut; rw [if_neg (by omega)]
    rw [e]
    clear hA hB e
    go_enter Try.func11, Try.ntmps11
    go_wp2_with fail
    go_ret2
    exact ⟨rfl, Below.refl _ _⟩
  cases Fs with
  | nil =>
    have e : rcut tid [] Gs = none := by unfold rcut; split <;> rfl
    rw [e]
    simp only [List.length_nil] at hn
    subst hn
    clear hA hB e
    go_enter Try.func11, Try.ntmps11
    go_wp2_with fail
    go_ret2
    exact ⟨rfl, Below.refl _ _⟩
  | cons F0 Fr =>
    obtain ⟨t, rfl⟩ : ∃ t : Nat, tid = (t : Int) := ⟨tid.toNat, by omega⟩
    have ht : t < 256 := by omega
    have ht' : (t : Int) < 256 := by omega
    have hn0 : 0 < n := by rw [← hn]; simp
    have hn1 : ((n : Int) == 0) = false := by simp; omega
    have hlt0 : (0 : Int) < (n : Int) := by omega
    have ER : Hid (rcut (t : Int) (F0 :: Fr) Gs = if mnF t (F0 :: Fr) (F0 t) = mxF t Gs (mxF t (F0 :: Fr) (F0 t)) then some (mnF t (F0 :: Fr) (F0 t)) else none) := by
      show _ = _
      unfold rcut
      rw [if_pos (by omega)]
      rfl
    obtain ⟨g0, off0, e0, r0⟩ := hA 0 F0 rfl
    have c0 := (r0 t ht).1
    simp only [Nat.zero_mul, Nat.add_zero] at c0
    subst e0
    obtain ⟨Fa, hFa⟩ : ∃ Fa, Fa = F0 :: Fr := ⟨_, rfl⟩
    rw [← hFa] at ER hA hn ⊢
    have HA := hide hA
    have HB := hide hB
    generalize F0 t = x0 at *
    have zr := zero_ref
    have rs := ra_size nf
    have rsF := fun F => ra_size F
    have HN := hide hn
    have HM := hide hm
    obtain ⟨o, ho⟩ : ∃ o, rcut (t : Int) Fa Gs = o := ⟨_, rfl⟩
    rw [ho] at ER ⊢
    clear hA hB hFa r0 hn hm ho
    go_enter Try.func11, Try.ntmps11
    go_wp2_with fail
    go_loopw [8, 9, 34] (fun a b i wr => ∃ k : Nat, k ≤ n ∧ i = .int .i64 (k : Int) ∧ a = .int .i64 (mnF t (Fa.take k) x0) ∧ b = .int .i64 (mxF t (Fa.take k) x0) ∧ Below w.heap.size w wr) (fun _ _ i _ => n - (intOf i).toNat)
    case atStart => exact ⟨0, Nat.zero_le _, rfl, rfl, rfl, Below.refl _ _⟩
    case round =>
      obtain ⟨k, hk, rfl, rfl, rfl, bl⟩ := hrel
      have BL := hide bl
      clear bl
      by_cases hlt : k < n
      · have hlt' : (k : Int) < (n : Int) := by omega
        obtain ⟨F, hF⟩ : ∃ F, Fa[k]? = some F := ⟨_, List.getElem?_eq_getElem (by rw [HN.out]; exact hlt)⟩
        obtain ⟨g, off, e1, r1⟩ := (HA.out.below BL.out) k F hF
        cases e1
        have EN := hide (mn_take t Fa k F hF x0)
        have EX := hide (mx_take t Fa k F hF x0)
        have lc : (loadCellsFrom ⟨g0, off0 + k * 256, none⟩ 0 256 #[]).run Try.prog wr = .ok (ra F) wr := ld_ref r1
        obtain ⟨LC, hLC⟩ : ∃ LC : Nat → Sem (Array Value), ∀ n, loadCellsFrom (⟨g0, off0 + k * 256, none⟩ : Addr) 0 n #[] = LC n := ⟨fun n => loadCellsFrom (⟨g0, off0 + k * 256, none⟩ : Addr) 0 n #[], fun _ => rfl⟩
        rw [hLC] at lc
        have s1 := st_ref F (heap_new wr (.cells (ra nf) 35)) (ra_size nf)
        rw [setRow_new] at s1
        have hd : (wr.alloc (.cells (ra F) 35)).heap[wr.heap.size]? = some (.cells (ra F) 35 (0, 0)) := heap_new _ _
        have d0 := ((RA.of hd) t ht).1
        simp only [Nat.zero_add] at d0
        have B2 := hide (btr BL.out (Ba.below_alloc wr (.cells (ra F) 35)))
        have rF := rsF F
        clear hF r1 hd
        generalize F t = y at *
        generalize ra F = AF at *
        generalize mnF t (Fa.take k) x0 = a at *
        generalize mxF t (Fa.take k) x0 = b at *
        by_cases q1 : y < a
        · by_cases q2 : b < y
          · go_wp2_with fail
            go_roundw
            case rel => exact ⟨k + 1, by omega, by go_num, by rw [EN.out]; congr 1; omega, by rw [EX.out]; congr 1; omega, B2.out⟩
            case measure => simp [intOf]; omega
          · go_wp2_with fail
            go_roundw
            case rel => exact ⟨k + 1, by omega, by go_num, by rw [EN.out]; congr 1; omega, by rw [EX.out]; congr 1; omega, B2.out⟩
            case measure => simp [intOf]; omega
        · by_cases q2 : b < y
          · go_wp2_with fail
            go_roundw
            case rel => exact ⟨k + 1, by omega, by go_num, by rw [EN.out]; congr 1; omega, by rw [EX.out]; congr 1; omega, B2.out⟩
            case measure => simp [intOf]; omega
          · go_wp2_with fail
            go_roundw
            case rel => exact ⟨k + 1, by omega, by go_num, by rw [EN.out]; congr 1; omega, by rw [EX.out]; congr 1; omega, B2.out⟩
            case measure => simp [intOf]; omega
      · have hlt' : ¬ ((k : Int) < (n : Int)) := by omega
        obtain rfl : n = k := by omega
        have ET : Hid (Fa.take n = Fa) := by show _ = _; exact List.take_of_length_le (by rw [HN.out]; exact Nat.le_refl _)
        rw [ET.out]
        clear ET HA HN c0
        generalize mnF t Fa x0 = a at *
        generalize mxF t Fa x0 = b0 at *
        go_wp2_with fail
        go_loopw [9, 61] (fun b i wr => ∃ k : Nat, k ≤ m ∧ i = .int .i64 (k : Int) ∧ b = .int .i64 (mxF t (Gs.take k) b0) ∧ Below w.heap.size w wr) (fun _ i _ => m - (intOf i).toNat)
        case atStart => exact ⟨0, Nat.zero_le _, rfl, rfl, BL.out⟩
        case round =>
          clear BL
          obtain ⟨k, hk, rfl, rfl, bl⟩ := hrel
          have BL := hide bl
          clear bl
          by_cases hlt : k < m
          · have hlt' : (k : Int) < (m : Int) := by omega
            obtain ⟨F, hF⟩ : ∃ F, Gs[k]? = some F := ⟨_, List.getElem?_eq_getElem (by rw [HM.out]; exact hlt)⟩
            obtain ⟨g, off, rfl, r1⟩ := (HB.out.below BL.out) k F hF
            have EX := hide (mx_take t Gs k F hF b0)
            have lc : (loadCellsFrom ⟨g, off + k * 256, none⟩ 0 256 #[]).run Try.prog wr = .ok (ra F) wr := ld_ref r1
            obtain ⟨LC, hLC⟩ : ∃ LC : Nat → Sem (Array Value), ∀ n, loadCellsFrom (⟨g, off + k * 256, none⟩ : Addr) 0 n #[] = LC n := ⟨fun n => loadCellsFrom (⟨g, off + k * 256, none⟩ : Addr) 0 n #[], fun _ => rfl⟩
            rw [hLC] at lc
            have s1 := st_ref F (heap_new wr (.cells (ra nf) 35)) (ra_size nf)
            rw [setRow_new] at s1
            have hd : (wr.alloc (.cells (ra F) 35)).heap[wr.heap.size]? = some (.cells (ra F) 35 (0, 0)) := heap_new _ _
            have d0 := ((RA.of hd) t ht).1
            simp only [Nat.zero_add] at d0
            have B2 := hide (btr BL.out (Ba.below_alloc wr (.cells (ra F) 35)))
            have rF := rsF F
            clear hF r1 hd
            generalize F t = y at *
            generalize ra F = AF at *
            generalize mxF t (Gs.take k) b0 = b at *
            by_cases q2 : b < y
            · go_wp2_with fail
              go_roundw
              case rel => exact ⟨k + 1, by omega, by go_num, by rw [EX.out]; congr 1; omega, B2.out⟩
              case measure => simp [intOf]; omega
            · go_wp2_with fail
              go_roundw
              case rel => exact ⟨k + 1, by omega, by go_num, by rw [EX.out]; congr 1; omega, B2.out⟩
              case measure => simp [intOf]; omega
          · have hlt' : ¬ ((k : Int) < (m : Int)) := by omega
            obtain rfl : m = k := by omega
            have ET : Hid (Gs.take m = Gs) := by show _ = _; exact List.take_of_length_le (by rw [HM.out]; exact Nat.le_refl _)
            rw [ET.out]
            clear ET HB HM
            generalize mxF t Gs b0 = b at *
            by_cases q : a = b
            · subst q
              obtain rfl : o = some a := by rw [ER.out, if_pos rfl]
              clear ER
              go_wp2_with fail
              go_ret2
              exact ⟨rfl, BL.out⟩
            · have q' : (a == b) = false := by simp [q]
              obtain rfl : o = none := by rw [ER.out, if_neg q]
              clear ER
              go_wp2_with fail
              go_ret2
              exact ⟨rfl, BL.out⟩
end Rt
end Go.Proofs.Ytbceiakihplbcaa
