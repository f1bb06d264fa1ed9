/- Layer 25 (matrix), over this seat's program: join, Close. -/
import Derived.Test.YtdfjcmlafhannaaNa5
namespace Go.Proofs.Ytdfjcmlafhannaa
open Go.ChangeShapes Go.WideShapes Go.ChangeAt Go.RowKit
namespace Mx
open Ba (KB btr heap_lt cell_of frozen_of ret_bool ret_int bdrew heap_new below_alloc heap_below)

theorem wd_zero (j : Nat) : wd 0 j = 0 := by simp [wd]
theorem wd_mod (y j b : Nat) : wd (y % 2 ^ (64 * j)) b = if b < j then wd y b else 0 := by
  apply Nat.eq_of_testBit_eq
  intro c
  rw [wd_bit, Nat.testBit_mod_two_pow]
  split
  · next h =>
    rw [wd_bit]
    by_cases hc : c < 64
    · have : decide (64 * b + c < 64 * j) = true := by simp; omega
      rw [this, Bool.true_and]
    · simp [hc]
  · next h =>
    rw [Nat.zero_testBit]
    by_cases hc : c < 64
    · have : decide (64 * b + c < 64 * j) = false := by simp; omega
      rw [this]; simp
    · simp [hc]
/-- row i, the first j words of which have what k has -/
def jn (r : Rws) (i k j : Nat) : Rws := upd r i (r i ||| r k % 2 ^ (64 * j))
theorem jn_zero (r : Rws) (i k : Nat) : jn r i k 0 = r := by
  funext a
  simp only [jn, upd, Nat.mul_zero, Nat.pow_zero, Nat.mod_one, Nat.or_zero]
  split
  · next h => rw [h]
  · rfl
theorem jn_word (r : Rws) (i k j : Nat) : wd (jn r i k j k) j = wd (r k) j := by
  by_cases e : k = i
  · subst e
    simp only [jn, upd_same]
    rw [wd_or, wd_mod, if_neg (by omega), Nat.or_zero]
  · simp only [jn, upd_ne _ _ _ _ e]
theorem jn_self (r : Rws) (i k j : Nat) : wd (jn r i k j i) j = wd (r i) j := by
  simp only [jn, upd_same]
  rw [wd_or, wd_mod, if_neg (by omega), Nat.or_zero]
theorem jn_next (r : Rws) (i k j : Nat) : wd (jn r i k (j + 1) i) j = wd (r i) j ||| wd (r k) j := by
  simp only [jn, upd_same]
  rw [wd_or, wd_mod, if_pos (by omega)]
theorem jn_other (r : Rws) (i k j a b : Nat) (h : ¬ (a = i ∧ b = j)) : wd (jn r i k (j + 1) a) b = wd (jn r i k j a) b := by
  by_cases e : a = i
  · subst e
    have hb : b ≠ j := fun q => h ⟨rfl, q⟩
    simp only [jn, upd_same]
    rw [wd_or, wd_or, wd_mod, wd_mod]
    by_cases hj : b < j
    · rw [if_pos (by omega), if_pos hj]
    · rw [if_neg (by omega), if_neg hj]
  · simp only [jn, upd_ne _ _ _ _ e]
theorem jn_full {n : Nat} {r : Rws} (h : Bd n r) (i k : Nat) : jn r i k (ln n) = upd r i (r i ||| r k) := by
  have : r k % 2 ^ (64 * ln n) = r k := by
    apply Nat.eq_of_testBit_eq
    intro b
    rw [Nat.testBit_mod_two_pow]
    by_cases hb : b < 64 * ln n
    · simp [hb]
    · have : (r k).testBit b = false := h k b (by unfold ln at hb; omega)
      rw [this, Bool.and_false]
  simp only [jn, this]
theorem Bd.jn {n : Nat} {r : Rws} (h : Bd n r) (i k j : Nat) : Bd n (jn r i k j) := by
  intro a b hb
  unfold hs Mx.jn
  by_cases e : a = i
  · subst e
    rw [upd_same, Nat.testBit_or, Nat.testBit_mod_two_pow]
    have h1 : (r a).testBit b = false := h a b hb
    have h2 : (r k).testBit b = false := h k b hb
    rw [h1, h2]; simp
  · rw [upd_ne _ _ _ _ e]; exact h a b hb
theorem MW.jstep {w : World} {M R W n : Nat} {r : Rws} {i k j : Nat} (m : MW w M R W n (jn r i k j)) (hb : Bd n r) (hi : i < n) (hj : j < ln n) : MW (w.setCell ⟨W, i * ln n + j, none⟩ (.int .u64 ((wd (r i) j ||| wd (r k) j : Nat) : Int))) M R W n (jn r i k (j + 1)) :=
  m.put i j _ hi hj (hb.jn i k (j + 1)) (jn_next r i k j) (fun a b _ _ => by
    by_cases e : a = i ∧ b = j
    · exact .inl e
    · exact .inr (jn_other r i k j a b e))
set_option maxRecDepth 100000 in
set_option maxHeartbeats 1600000 in
theorem join_any {w : World} {M R W n : Nat} {r : Rws} (m : MW w M R W n r) (i k : Nat) (hi : i < n) (hk : k < n) :
    Calls Try.prog 31 #[.slice (some ⟨W, i * ln n, none⟩) (ln n) (ln n), .slice (some ⟨W, k * ln n, none⟩) (ln n) (ln n)] w fun e w' => e = .returned (.tuple #[]) ∧ MW w' M R W n (upd r i (r i ||| r k)) ∧ KB W w w' := by
  have hl := ln_le m.le
  have BD := hide m.bd
  rw [← jn_full m.bd i k]
  have M0 : Hid (MW w M R W n (jn r i k 0)) := by rw [jn_zero]; exact m
  clear m
  obtain ⟨L, hL⟩ : ∃ L, ln n = L := ⟨_, rfl⟩
  obtain ⟨iL, hiL⟩ : ∃ iL, i * L = iL := ⟨_, rfl⟩
  obtain ⟨kL, hkL⟩ : ∃ kL, k * L = kL := ⟨_, rfl⟩
  rw [hL] at hl ⊢
  rw [hiL, hkL]
  have HL := hide hL
  have HI := hide hiL
  have HK := hide hkL
  clear hL hiL hkL
  go_enter Try.func31, Try.ntmps31
  go_wp2_with fail
  go_loopw [8] (fun s wr => ∃ j : Nat, j ≤ L ∧ s = .int .i64 (j : Int) ∧ MW wr M R W n (jn r i k j) ∧ KB W w wr) (fun s _ => L - (intOf s).toNat)
  case atStart => exact ⟨0, Nat.zero_le _, rfl, M0.out, KB.refl _ _⟩
  case round =>
    obtain ⟨j, hj, rfl, mj, kj⟩ := hrel
    have MJ := hide mj
    have KJ := hide kj
    clear M0
    by_cases hlt : j < L
    · have hlt' : (j : Int) < (L : Int) := by omega
      have c1 := mj.wrd i j hi (by rw [HL.out]; exact hlt)
      have c2 := mj.wrd k j hk (by rw [HL.out]; exact hlt)
      rw [HL.out, HI.out, jn_self] at c1
      rw [HL.out, HK.out, jn_word] at c2
      have f1 := mj.frz (iL + j)
      have OR := or_nat (wd (r i) j) (wd (r k) j) (wd_lt _ _) (wd_lt _ _)
      have NX := hide (MJ.out.jstep BD.out hi (by rw [HL.out]; exact hlt))
      rw [HL.out, HI.out] at NX
      have KX := hide (kj.setCell (iL + j) (.int .u64 ((wd (r i) j ||| wd (r k) j : Nat) : Int)))
      clear mj kj
      generalize wd (r i) j ||| wd (r k) j = z at *
      generalize wd (r i) j = x at *
      generalize wd (r k) j = y at *
      go_wp2_with fail
      go_roundw
      case rel => exact ⟨j + 1, by omega, by go_num, NX.out, KX.out⟩
      case measure => simp [intOf]; omega
    · have hlt' : ¬ ((j : Int) < (L : Int)) := by omega
      obtain rfl : j = L := by omega
      clear mj kj
      go_wp2_with fail
      go_end0
      exact ⟨rfl, MJ.out, KJ.out⟩
theorem MW.drw {w : World} {M R W n : Nat} {r : Rws} (m : MW w M R W n r) (q : Nat) : MW (w.drewN q) M R W n r := m.keep rfl rfl rfl
set_option maxHeartbeats 800000 in
theorem close_nil (w : World) :
    Calls Try.prog 22 #[.pointer none] w fun e w' => e = .returned (.tuple #[]) ∧ w' = w := by
  have SZ := hide (size_nil w)
  go_enter Try.func22, Try.ntmps22
  go_wp2_with fail
  refine SZ.out.mono ?_
  rintro e w1 ⟨rfl, e1⟩
  obtain rfl := e1.symm
  go_wp2_with fail
  go_loop [6] (fun s => s = .int .i64 0) (fun _ => 0)
  case atStart => exact rfl
  case round =>
    subst hrel
    go_wp2_with fail
    go_end0
    exact ⟨rfl, rfl⟩
set_option maxRecDepth 100000 in
set_option maxHeartbeats 1600000 in
theorem close_any {w : World} {M R W n : Nat} {r : Rws} (m : MW w M R W n r) :
    Calls Try.prog 22 #[.pointer (some ⟨M, 0, none⟩)] w fun e w' => e = .returned (.tuple #[]) ∧ MW w' M R W n (clo r n) ∧ KB W w w' := by
  have hle := m.le
  have SZ := hide (fun (u : World) (rr : Rws) (mm : MW u M R W n rr) => size_any mm)
  have M0 := hide m
  clear m
  go_enter Try.func22, Try.ntmps22
  go_wp2_with fail
  refine (SZ.out _ _ M0.out).mono ?_
  rintro e w1 ⟨rfl, e1⟩
  obtain rfl := e1.symm
  go_wp2_with fail
  go_loopw [6] (fun s wr => ∃ k : Nat, k ≤ n ∧ s = .int .i64 (k : Int) ∧ MW wr M R W n (turns r n k) ∧ KB W w wr) (fun s _ => n - (intOf s).toNat)
  case atStart => exact ⟨0, Nat.zero_le _, rfl, M0.out, KB.refl _ _⟩
  case round =>
    obtain ⟨k, hk, rfl, mk, kk⟩ := hrel
    have MK := hide mk
    have KK := hide kk
    clear mk kk
    by_cases hlt : k < n
    · have hlt' : (k : Int) < (n : Int) := by omega
      go_wp2_with fail
      refine (SZ.out _ _ MK.out).mono ?_
      rintro e w1 ⟨rfl, e1⟩
      obtain rfl := e1.symm
      go_wp2_with fail
      rename World => wo
      go_loopw [11] (fun s wr => ∃ i : Nat, i ≤ n ∧ s = .int .i64 (i : Int) ∧ MW wr M R W n (turn (turns r n k) k i) ∧ KB W w wr) (fun s _ => n - (intOf s).toNat)
      case atStart => exact ⟨0, Nat.zero_le _, rfl, MK.out, KK.out⟩
      case round =>
        obtain ⟨i, hi, rfl, mi, ki⟩ := hrel
        by_cases hlti : i < n
        · have hlti' : (i : Int) < (n : Int) := by omega
          have HA := hide (has_in mi i k hlti hlt)
          have MI := hide mi
          have KI := hide ki
          have JO := hide (fun q => join_any (w := (wr.drewN q).drew) ((mi.drw q).keep rfl rfl rfl) i k hlti hlt)
          have c0 := mi.mcell
          have c1 := mi.row i hlti
          have c2 := mi.row k hlt
          have TR : Hid (turn (turns r n k) k (i + 1) = if hs (turn (turns r n k) k i) i k then upd (turn (turns r n k) k i) i (turn (turns r n k) k i i ||| turn (turns r n k) k i k) else turn (turns r n k) k i) := rfl
          clear mi ki
          generalize turn (turns r n k) k i = t at *
          obtain ⟨L, hL⟩ : ∃ L, ln n = L := ⟨_, rfl⟩
          obtain ⟨iL, hiL⟩ : ∃ iL, i * L = iL := ⟨_, rfl⟩
          obtain ⟨kL, hkL⟩ : ∃ kL, k * L = kL := ⟨_, rfl⟩
          rw [hL, hiL] at c1
          rw [hL, hkL] at c2
          rw [hL, hiL, hkL] at JO
          have HLL := hide hL
          have HIL := hide hiL
          have HKL := hide hkL
          clear hL hiL hkL
          cases hb : hs t i k
          · rw [hb] at HA TR
            have TR2 : Hid (turn (turns r n k) k (i + 1) = t) := TR.out
            clear hb TR
            go_wp2_with fail
            refine HA.out.mono ?_
            rintro e w1 ⟨rfl, q, rfl⟩
            go_wp2_with fail
            go_roundw
            case rel => exact ⟨i + 1, by omega, by go_num, by rw [TR2.out]; exact MI.out.drw q, KI.out.trans (KB.of (bdrew _ q))⟩
            case measure => simp [intOf]; omega
          · rw [hb] at HA TR
            have TR2 : Hid (turn (turns r n k) k (i + 1) = upd t i (t i ||| t k)) := TR.out
            clear hb TR
            go_wp2_with fail
            refine HA.out.mono ?_
            rintro e w1 ⟨rfl, q, rfl⟩
            go_wp2_with fail
            have J1 := hide (JO.out q)
            have K1 := hide ((KI.out.trans (KB.of (bdrew _ q))).trans (KB.of (Ba.bdrew1 (wr.drewN q))))
            clear JO
            go_region_held3 (fun w' => w'.cell? ⟨M, 0, none⟩ = some (.slice (some ⟨R, 0, none⟩) n n) ∧ w'.cell? ⟨R, i, none⟩ = some (.slice (some ⟨W, iL, none⟩) L L) ∧ w'.cell? ⟨R, k, none⟩ = some (.slice (some ⟨W, kL, none⟩) L L))
              (first | (go_keep; done) | exact ⟨m2.mcell, (m2.row i hlti).trans (by rw [HLL.out, HIL.out]), (m2.row k hlt).trans (by rw [HLL.out, HKL.out])⟩)
              ((go_at_call 31; refine J1.out.mono ?_; rintro e w2 ⟨rfl, m2, k2⟩))
            have M2 := hide m2
            have K2 := hide (K1.out.trans k2)
            clear m2 k2
            go_wp2_with fail
            go_roundw
            case rel => exact ⟨i + 1, by omega, by go_num, by rw [TR2.out]; exact M2.out, K2.out⟩
            case measure => simp [intOf]; omega
        · have hlti' : ¬ ((i : Int) < (n : Int)) := by omega
          obtain rfl : i = n := by omega
          have MI : Hid (MW wr M R W i (turns r i (k + 1))) := mi
          have KI := hide ki
          clear mi ki
          go_wp2_with fail
          go_roundw
          case rel => exact ⟨k + 1, by omega, by go_num, MI.out, KI.out⟩
          case measure => simp [intOf]; omega
    · have hlt' : ¬ ((k : Int) < (n : Int)) := by omega
      obtain rfl : k = n := by omega
      go_wp2_with fail
      go_end0
      exact ⟨rfl, MK.out, KK.out⟩
end Mx
end Go.Proofs.Ytdfjcmlafhannaa
