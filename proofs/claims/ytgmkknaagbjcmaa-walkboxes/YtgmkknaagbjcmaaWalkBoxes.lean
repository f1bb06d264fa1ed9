/- The box around places, the first that is met twice, the area of the closed path are what the document says, for every list of places. -/
import Derived.Test.YtgmkknaagbjcmaaFwa
import Derived.Test.YtgmkknaagbjcmaaBo
import Derived.ShutString
import Derived.ChangeOld
import Derived.Below
namespace Go.Proofs.Ytgmkknaagbjcmaa.walkBoxes
open Go.ChangeShapes Go.WideShapes Go.ChangeAt Go.RowKit
open Go.ChangeMaps (open_string shut_string)
open Fw Fl

theorem own : ownKnob Try.prog.godebug = none := by kernel_rfl
theorem laidOut : laidOutB Try.prog = true := by kernel_rfl

theorem eqP (a b c d : Int) (u : World) : (Op.equalIn 10000 33 (.agg #[.int .i64 a, .int .i64 b]) (.agg #[.int .i64 c, .int .i64 d])).run Try.prog u = .ok (a == c && b == d) u := by
  cases h0 : (a == c)
  · simp [go_sem, h0]
  cases h1 : (b == d)
  · simp [go_sem, h0, h1]
  · simp [go_sem, h0, h1]
theorem lo_bd {g : Nat → Int} {n : Nat} (h0 : 0 < n) (h : ∀ i, i < n → -10000 ≤ g i ∧ g i ≤ 10000) : ∀ k, k ≤ n → (lo g k).natAbs ≤ 1000000000000 ∧ (-10000 ≤ lo g k ∧ lo g k ≤ 10000)
  | 0, _ => by have := h 0 h0; simp only [lo]; omega
  | k + 1, hk => by have := lo_bd h0 h k (by omega); have := h k (by omega); simp only [lo]; omega
theorem hi_bd {g : Nat → Int} {n : Nat} (h0 : 0 < n) (h : ∀ i, i < n → -10000 ≤ g i ∧ g i ≤ 10000) : ∀ k, k ≤ n → (hi g k).natAbs ≤ 1000000000000 ∧ (-10000 ≤ hi g k ∧ hi g k ≤ 10000)
  | 0, _ => by have := h 0 h0; simp only [hi]; omega
  | k + 1, hk => by have := hi_bd h0 h k (by omega); have := h k (by omega); simp only [hi]; omega
theorem box_bd {n : Nat} {f : Nat → Int × Int} (h : Bd n f) (h0 : 0 < n) : (lo (fun i => (f i).1) n).natAbs ≤ 1000000000000 ∧ (lo (fun i => (f i).2) n).natAbs ≤ 1000000000000 ∧ (hi (fun i => (f i).1) n).natAbs ≤ 1000000000000 ∧ (hi (fun i => (f i).2) n).natAbs ≤ 1000000000000 :=
  ⟨(lo_bd h0 (fun i hi => (h i hi).1) n (Nat.le_refl _)).1, (lo_bd h0 (fun i hi => (h i hi).2) n (Nat.le_refl _)).1, (hi_bd h0 (fun i hi => (h i hi).1) n (Nat.le_refl _)).1, (hi_bd h0 (fun i hi => (h i hi).2) n (Nat.le_refl _)).1⟩
set_option maxRecDepth 100000 in
set_option maxHeartbeats 12800000 in
theorem core' {w : World} (oa : Option Addr) (n c : Nat) (f : Nat → Int × Int) (hA : QAt w oa n f) (hm : n ≤ maxLen) :
    Calls Try.prog 5 #[.slice oa n c] w fun e w' => e = .returned (.bool true) ∧ Below w.heap.size w w' := by
  have QA := Ba.hide hA
  have LG := Ba.hide (large_any oa n c f w hA hm)
  clear hA hm
  go_enter Try.func5, Try.ntmps5
  go_wp2_with fail
  refine LG.out.mono ?_
  rintro r w1 ⟨hr, b1⟩
  have B1 := Ba.hide b1
  clear b1
  rcases hr with rfl | ⟨rfl, hn, hb⟩
  · go_wp2_with fail
    refine (two_any _).mono ?_
    rintro r w2 ⟨rfl, b2⟩
    have B2 := Ba.hide (Ba.btr B1.out b2)
    clear b2
    go_wp2_with fail
    go_ret
    exact ⟨rfl, B2.out⟩
  have HB := Ba.hide hb
  have PL := Ba.hide (places_any oa n c f w1 (QA.out.below B1.out) hn hb)
  clear hb LG
  go_wp2_with fail
  refine PL.out.mono ?_
  rintro r w2 ⟨pa, pc, rfl, hpc, za, b2⟩
  have ZA2 := Ba.hide za
  have QA2 := Ba.hide (QA.out.below (Ba.btr B1.out b2))
  have BB2 := Ba.hide (Ba.btr B1.out b2)
  clear za b2 B1 PL QA
  have TWI := Ba.hide (fun u (h : ZAt u pa n f) => twice_any pa n pc f u h hn hpc)
  clear hpc
  by_cases h0 : n = 0
  · have BN : Hid (∀ u, Calls Try.prog 17 #[.slice pa n pc] u fun r w' => r = .returned (.tuple #[.complex .f64 0 0, .complex .f64 0 0, .bool false]) ∧ w' = u) := by subst h0; exact fun u => box_none pc pa u
    have g1 : decide ((0 : Int) < (n : Int)) = false := by simp; omega
    have g2 : decide (0 < n) = false := by simp; omega
    clear h0
    go_wp2_with fail
    refine (BN.out _).mono ?_
    rintro r w3 ⟨rfl, e3⟩
    obtain rfl := e3.symm
    go_wp2_with fail
    refine (TWI.out _ ZA2.out).mono ?_
    rintro r w4 ⟨ht, e4⟩
    obtain rfl := e4.symm
    rcases ht with ⟨rfl, un⟩ | ⟨ti, tk, rfl, t1, t2, -⟩
    · have UN := Ba.hide un
      clear un
      obtain ⟨W, hW⟩ : ∃ W, w2 = W := ⟨_, rfl⟩
      rw [hW] at ZA2 QA2 BB2 ⊢
      have ZA := Ba.hide ZA2.out
      have QA := Ba.hide QA2.out
      have BB := Ba.hide BB2.out
      clear QA2 ZA2 BB2 hW
      have AR := Ba.hide (area_any pa n pc f W ZA.out HB.out hn)
      go_wp2_with fail
      refine AR.out.mono ?_
      rintro r w8 ⟨ar, rfl, har, e8⟩
      obtain rfl := e8.symm
      have SB := sm_bd HB.out n (Nat.le_refl _)
      obtain ⟨dr, D1, D2⟩ := Hf.twice har (by omega)
      have MU : ∀ z, (binOp .mul 48 (.float .f64 ar) (.float .f64 4611686018427387904)).run Try.prog z = .ok (.float .f64 dr) z := fun z => run_float_arith z .mul _ _ _ _ _ D1
      have DB := Ba.hide (double_any oa n c f W QA.out hn HB.out)
      have ne : (FloatKind.f64.format.order dr (floatOfInt .f64 (sm (cr n f) n)) == some .eq) = true := (D2.eq (Hi.ofInt (n := sm (cr n f) n) (by omega))).trans (by simp)
      have ne2 : (FloatKind.f64.format.order dr (floatOfInt .f64 (sm (cr n f) n)) != some .eq) = false := by rw [bne, ne]; rfl
      generalize sm (cr n f) n = SS at *
      clear D1 D2 har SB AR ne
      go_wp2_with fail
      refine DB.out.mono ?_
      rintro r w9 ⟨rfl, b9⟩
      have QA9 := Ba.hide (QA.out.below b9)
      have B9 := Ba.hide (Ba.btr BB.out b9)
      clear b9 DB QA BB ZA
      go_wp2_with fail
      go_loopw [105] (fun i wr => ∃ k : Nat, k ≤ n ∧ i = .int .i64 (k : Int) ∧ Below w9.heap.size w9 wr) (fun i _ => n - (intOf i).toNat)
      case atStart => exact ⟨0, Nat.zero_le _, rfl, Below.refl _ _⟩
      case round =>
        obtain ⟨k, hk, rfl, bl⟩ := hrel
        have BL := Ba.hide bl
        clear bl
        by_cases hlt : k < n
        · have hlt' : (k : Int) < (n : Int) := by omega
          go_wp2_with fail
          rename World => wk
          go_loopw [16] (fun i wr => ∃ m : Nat, m ≤ k ∧ i = .int .i64 (m : Int) ∧ Below w9.heap.size w9 wr) (fun i _ => k - (intOf i).toNat)
          case atStart => exact ⟨0, Nat.zero_le _, rfl, BL.out⟩
          case round =>
            obtain ⟨m, hm, rfl, bm⟩ := hrel
            have BM := Ba.hide bm
            clear bm BL
            by_cases hlm : m < k
            · have hlm' : (m : Int) < (k : Int) := by omega
              have hmn' : (m : Int) < (n : Int) := by omega
              have hne := UN.out m k hlm hlt
              obtain ⟨b1, o1, rfl, c1, c2⟩ := QA9.out.below BM.out m (by omega)
              obtain ⟨b2, o2, e, c3, c4⟩ := QA9.out.below BM.out k hlt
              cases e
              have hq : ((f m).1 == (f k).1 && (f m).2 == (f k).2) = false := by
                rw [Bool.eq_false_iff]; intro h; simp at h; exact hne (Prod.ext h.1 h.2)
              have EQ := fun u => eqP (f m).1 (f m).2 (f k).1 (f k).2 u
              rw [hq] at EQ
              generalize (f m).1 = X1 at *
              generalize (f m).2 = X2 at *
              generalize (f k).1 = Y1 at *
              generalize (f k).2 = Y2 at *
              clear hne hq
              go_wp2_with fail
              go_quiet (fail)
              go_wp2_with fail
              go_roundw
              case rel => exact ⟨m + 1, by omega, by go_num, Ba.btr BM.out (Ba.bdrew _ _)⟩
              case measure => simp [intOf]; omega
            · have hlm' : ¬ ((m : Int) < (k : Int)) := by omega
              go_wp2_with fail
              go_roundw
              case rel => exact ⟨k + 1, by omega, by go_num, BM.out⟩
              case measure => simp [intOf]; omega
        · have hlt' : ¬ ((k : Int) < (n : Int)) := by omega
          go_wp2_with fail
          refine (two_any _).mono ?_
          rintro r wa ⟨rfl, ba⟩
          have BA := Ba.hide (Ba.btr (Ba.btr B9.out BL.out) ba)
          clear ba
          go_wp2_with fail
          go_ret
          exact ⟨rfl, BA.out⟩
    · exfalso
      have : ¬ (0 < n) := by simpa using g2
      omega
  have hn0 : 0 < n := by omega
  have BXR := Ba.hide (box_any pa n pc f w2 ZA2.out hn0 hn)
  have g1 : decide ((0 : Int) < (n : Int)) = true := by simp; omega
  have g2 : decide (0 < n) = true := by simp; omega
  have g3 : (0 : Int) < (n : Int) := by omega
  go_wp2_with fail
  refine BXR.out.mono ?_
  rintro r w3 ⟨wa, wb, wa', wb', rfl, k1, k2, k3, k4, q3, e3⟩
  have KK := Ba.hide (And.intro k1 (And.intro k2 (And.intro k3 k4)))
  have ZA3 : Hid (ZAt w3 pa n f) := by rw [e3]; exact ZA2.out.below (Ba.bdrew _ _)
  have QA3 : Hid (QAt w3 oa n f) := by rw [e3]; exact QA2.out.below (Ba.bdrew _ _)
  have B3 : Hid (Below w.heap.size w w3) := by rw [e3]; exact Ba.btr BB2.out (Ba.bdrew _ _)
  clear k1 k2 k3 k4 e3 ZA2 QA2 BB2 BXR
  go_wp2_with fail
  refine (TWI.out _ ZA3.out).mono ?_
  rintro r w4 ⟨ht, e4⟩
  obtain rfl := e4.symm
  obtain ⟨iv, kv, tb, rfl, hT⟩ : ∃ (iv kv : Int) (tb : Bool), r = .returned (.tuple #[.int .i64 iv, .int .i64 kv, .bool tb]) ∧ ((iv = 0 ∧ kv = 0 ∧ tb = false ∧ Un f n) ∨ ∃ i k : Nat, iv = (i : Int) ∧ kv = (k : Int) ∧ tb = true ∧ i < k ∧ k < n ∧ f i = f k ∧ (∀ m, m < i → f m ≠ f k) ∧ Un f k) := by
    rcases ht with ⟨e, un⟩ | ⟨i, k, e, t⟩
    · exact ⟨0, 0, false, e, .inl ⟨rfl, rfl, rfl, un⟩⟩
    · exact ⟨i, k, true, e, .inr ⟨i, k, rfl, rfl, rfl, t⟩⟩
  have HT := Ba.hide hT
  clear ht hT TWI
  obtain ⟨bb, oo, rfl, x0, y0⟩ := QA3.out 0 hn0
  rw [Nat.zero_mul, Nat.add_zero] at x0 y0
  obtain ⟨L, hL⟩ : ∃ L, w3.heap.size = L := ⟨_, rfl⟩
  go_upto_if 39 with fail
  go_cut [] (fun wc => Below w3.heap.size w3 wc)
  case first =>
    obtain ⟨f1, hf1⟩ : ∃ z, (f 0).1 = z := ⟨_, rfl⟩
    obtain ⟨f2, hf2⟩ : ∃ z, (f 0).2 = z := ⟨_, rfl⟩
    have HF := Ba.hide (And.intro hf1 hf2)
    rw [hf1] at x0
    rw [hf2] at y0
    clear hf1 hf2
    have h1 := Ba.heap_new w3 (.cells #[.int .i64 f1, .int .i64 f2] 33)
    have h2 := Ba.heap_new (w3.alloc (.cells #[.int .i64 f1, .int .i64 f2] 33)) (.cells #[.int .i64 f1, .int .i64 f2] 33)
    rw [World.size_alloc] at h2
    rw [hL] at h1 h2
    have S1 := Ba.hide (Ba.heap_below h1 (Ba.below_alloc _ (.cells #[.int .i64 f1, .int .i64 f2] 33)))
    have S2 := Ba.hide h2
    have S3 := Ba.hide (Ba.btr (Ba.below_alloc w3 (.cells #[.int .i64 f1, .int .i64 f2] 33)) (Ba.below_alloc _ (.cells #[.int .i64 f1, .int .i64 f2] 33)))
    have HL := Ba.hide hL
    have xa : ∀ o, (w3.alloc o).cell? ⟨bb, oo, none⟩ = some (.int .i64 f1) := fun o => cellB x0 (Ba.below_alloc _ o)
    have ya : ∀ o, (w3.alloc o).cell? ⟨bb, oo + 1, none⟩ = some (.int .i64 f2) := fun o => cellB y0 (Ba.below_alloc _ o)
    clear h1 h2
    go_wp2_with fail
    go_loopw [48] (fun i wr => ∃ k : Nat, k ≤ n ∧ i = .int .i64 (k : Int) ∧ wr.heap[L]? = some (.cells #[.int .i64 (lo (fun i => (f i).1) k), .int .i64 (lo (fun i => (f i).2) k)] 33 (0, 0)) ∧ wr.heap[L + 1]? = some (.cells #[.int .i64 (hi (fun i => (f i).1) k), .int .i64 (hi (fun i => (f i).2) k)] 33 (0, 0)) ∧ Below w3.heap.size w3 wr) (fun i _ => n - (intOf i).toNat)
    case atStart => exact ⟨0, Nat.zero_le _, rfl, by simp only [lo]; rw [HF.out.1, HF.out.2]; exact S1.out, by simp only [hi]; rw [HF.out.1, HF.out.2]; exact S2.out, S3.out⟩
    case round =>
      obtain ⟨k, hk, rfl, r1, r2, bl⟩ := hrel
      clear S1 S2 S3 xa ya x0 y0
      by_cases hlt : k < n
      · have hlt' : (k : Int) < (n : Int) := by omega
        obtain ⟨b2, o2, e, c1, c2⟩ := QA3.out.below bl k hlt
        cases e
        have E1 : Hid (lo (fun i => (f i).1) (k + 1) = min (lo (fun i => (f i).1) k) (f k).1) := rfl
        have E2 : Hid (lo (fun i => (f i).2) (k + 1) = min (lo (fun i => (f i).2) k) (f k).2) := rfl
        have E3 : Hid (hi (fun i => (f i).1) (k + 1) = max (hi (fun i => (f i).1) k) (f k).1) := rfl
        have E4 : Hid (hi (fun i => (f i).2) (k + 1) = max (hi (fun i => (f i).2) k) (f k).2) := rfl
        generalize lo (fun i => (f i).1) k = A at *
        generalize lo (fun i => (f i).2) k = B at *
        generalize hi (fun i => (f i).1) k = C at *
        generalize hi (fun i => (f i).2) k = D at *
        generalize (f k).1 = X at *
        generalize (f k).2 = Y at *
        have hQL : L + 1 < wr.heap.size := Ba.heap_lt r2
        have BXV : Hid (BX (wr.alloc (.cells #[.int .i64 X, .int .i64 Y] 33)) L (L + 1) wr.heap.size A B C D X Y) := ⟨Ba.heap_below r1 (Ba.below_alloc _ _), Ba.heap_below r2 (Ba.below_alloc _ _), Ba.heap_new _ _⟩
        have BV := Ba.hide (Ba.btr bl (Ba.below_alloc wr (.cells #[.int .i64 X, .int .i64 Y] 33)))
        clear r1 r2 bl
        go_upto_region 14 with fail
        generalize wr.alloc (.cells #[.int .i64 X, .int .i64 Y] 33) = V at *
        obtain ⟨Q, hQ⟩ : ∃ Q, wr.heap.size = Q := ⟨_, rfl⟩
        rw [hQ] at hQL BXV ⊢
        clear hQ
        have p0 : V.cell? ⟨Q, 0, none⟩ = some (.int .i64 X) := Ba.cell_of BXV.out.hq 0
        have p1 : V.cell? ⟨Q, 1, none⟩ = some (.int .i64 Y) := Ba.cell_of BXV.out.hq 1
        have l0 : V.cell? ⟨L, 0, none⟩ = some (.int .i64 A) := Ba.cell_of BXV.out.hl 0
        have l1 : V.cell? ⟨L, 1, none⟩ = some (.int .i64 B) := Ba.cell_of BXV.out.hl 1
        have m0 : V.cell? ⟨L + 1, 0, none⟩ = some (.int .i64 C) := Ba.cell_of BXV.out.hm 0
        have m1 : V.cell? ⟨L + 1, 1, none⟩ = some (.int .i64 D) := Ba.cell_of BXV.out.hm 1
        have fl0 := Ba.frozen_of BXV.out.hl 0
        have fl1 := Ba.frozen_of BXV.out.hl 1
        have fm0 := Ba.frozen_of BXV.out.hm 0
        have fm1 := Ba.frozen_of BXV.out.hm 1
        go_upto_if 56 with fail
        go_cut [] (fun wc => BX wc L (L + 1) Q (min A X) B C D X Y ∧ Below w3.heap.size w3 wc)
        case first =>
          by_cases hc : X < A
          · have hd : decide (X < A) = true := decide_eq_true hc
            go_wp2_with fail
            go_meet
            case rel => exact ⟨by rw [show min A X = X from by omega]; exact BXV.out.l0 (by omega) (by omega) X, below_set BV.out (by rw [HL.out]; omega)⟩
          · have hd : decide (X < A) = false := decide_eq_false hc
            go_wp2_with fail
            go_meet
            case rel => exact ⟨by rw [show min A X = A from by omega]; exact BXV.out, BV.out⟩
        case rest =>
          obtain ⟨bx, bv⟩ := hcut
          clear BXV BV p0 p1 l0 l1 m0 m1 fl0 fl1 fm0 fm1
          have BXV := Ba.hide bx
          have BV := Ba.hide bv
          clear bx bv
          rename World => V1
          obtain ⟨A1, HA1⟩ : ∃ z, Hid ((min A X) = z) := ⟨_, rfl⟩
          rw [HA1.out] at BXV
          have p0 : V1.cell? ⟨Q, 0, none⟩ = some (.int .i64 X) := Ba.cell_of BXV.out.hq 0
          have p1 : V1.cell? ⟨Q, 1, none⟩ = some (.int .i64 Y) := Ba.cell_of BXV.out.hq 1
          have l0 : V1.cell? ⟨L, 0, none⟩ = some (.int .i64 A1) := Ba.cell_of BXV.out.hl 0
          have l1 : V1.cell? ⟨L, 1, none⟩ = some (.int .i64 B) := Ba.cell_of BXV.out.hl 1
          have m0 : V1.cell? ⟨L + 1, 0, none⟩ = some (.int .i64 C) := Ba.cell_of BXV.out.hm 0
          have m1 : V1.cell? ⟨L + 1, 1, none⟩ = some (.int .i64 D) := Ba.cell_of BXV.out.hm 1
          have fl0 := Ba.frozen_of BXV.out.hl 0
          have fl1 := Ba.frozen_of BXV.out.hl 1
          have fm0 := Ba.frozen_of BXV.out.hm 0
          have fm1 := Ba.frozen_of BXV.out.hm 1
          go_upto_if 64 with fail
          go_cut [] (fun wc => BX wc L (L + 1) Q A1 (min B Y) C D X Y ∧ Below w3.heap.size w3 wc)
          case first =>
            by_cases hc : Y < B
            · have hd : decide (Y < B) = true := decide_eq_true hc
              go_wp2_with fail
              go_meet
              case rel => exact ⟨by rw [show min B Y = Y from by omega]; exact BXV.out.l1 (by omega) (by omega) Y, below_set BV.out (by rw [HL.out]; omega)⟩
            · have hd : decide (Y < B) = false := decide_eq_false hc
              go_wp2_with fail
              go_meet
              case rel => exact ⟨by rw [show min B Y = B from by omega]; exact BXV.out, BV.out⟩
          case rest =>
            obtain ⟨bx, bv⟩ := hcut
            clear BXV BV p0 p1 l0 l1 m0 m1 fl0 fl1 fm0 fm1
            have BXV := Ba.hide bx
            have BV := Ba.hide bv
            clear bx bv
            rename World => V2
            obtain ⟨B2, HB2⟩ : ∃ z, Hid ((min B Y) = z) := ⟨_, rfl⟩
            rw [HB2.out] at BXV
            have p0 : V2.cell? ⟨Q, 0, none⟩ = some (.int .i64 X) := Ba.cell_of BXV.out.hq 0
            have p1 : V2.cell? ⟨Q, 1, none⟩ = some (.int .i64 Y) := Ba.cell_of BXV.out.hq 1
            have l0 : V2.cell? ⟨L, 0, none⟩ = some (.int .i64 A1) := Ba.cell_of BXV.out.hl 0
            have l1 : V2.cell? ⟨L, 1, none⟩ = some (.int .i64 B2) := Ba.cell_of BXV.out.hl 1
            have m0 : V2.cell? ⟨L + 1, 0, none⟩ = some (.int .i64 C) := Ba.cell_of BXV.out.hm 0
            have m1 : V2.cell? ⟨L + 1, 1, none⟩ = some (.int .i64 D) := Ba.cell_of BXV.out.hm 1
            have fl0 := Ba.frozen_of BXV.out.hl 0
            have fl1 := Ba.frozen_of BXV.out.hl 1
            have fm0 := Ba.frozen_of BXV.out.hm 0
            have fm1 := Ba.frozen_of BXV.out.hm 1
            go_upto_if 72 with fail
            go_cut [] (fun wc => BX wc L (L + 1) Q A1 B2 (max C X) D X Y ∧ Below w3.heap.size w3 wc)
            case first =>
              by_cases hc : C < X
              · have hd : decide (C < X) = true := decide_eq_true hc
                go_wp2_with fail
                go_meet
                case rel => exact ⟨by rw [show max C X = X from by omega]; exact BXV.out.m0 (by omega) (by omega) X, below_set BV.out (by rw [HL.out]; omega)⟩
              · have hd : decide (C < X) = false := decide_eq_false hc
                go_wp2_with fail
                go_meet
                case rel => exact ⟨by rw [show max C X = C from by omega]; exact BXV.out, BV.out⟩
            case rest =>
              obtain ⟨bx, bv⟩ := hcut
              clear BXV BV p0 p1 l0 l1 m0 m1 fl0 fl1 fm0 fm1
              have BXV := Ba.hide bx
              have BV := Ba.hide bv
              clear bx bv
              rename World => V3
              obtain ⟨C3, HC3⟩ : ∃ z, Hid ((max C X) = z) := ⟨_, rfl⟩
              rw [HC3.out] at BXV
              have p0 : V3.cell? ⟨Q, 0, none⟩ = some (.int .i64 X) := Ba.cell_of BXV.out.hq 0
              have p1 : V3.cell? ⟨Q, 1, none⟩ = some (.int .i64 Y) := Ba.cell_of BXV.out.hq 1
              have l0 : V3.cell? ⟨L, 0, none⟩ = some (.int .i64 A1) := Ba.cell_of BXV.out.hl 0
              have l1 : V3.cell? ⟨L, 1, none⟩ = some (.int .i64 B2) := Ba.cell_of BXV.out.hl 1
              have m0 : V3.cell? ⟨L + 1, 0, none⟩ = some (.int .i64 C3) := Ba.cell_of BXV.out.hm 0
              have m1 : V3.cell? ⟨L + 1, 1, none⟩ = some (.int .i64 D) := Ba.cell_of BXV.out.hm 1
              have fl0 := Ba.frozen_of BXV.out.hl 0
              have fl1 := Ba.frozen_of BXV.out.hl 1
              have fm0 := Ba.frozen_of BXV.out.hm 0
              have fm1 := Ba.frozen_of BXV.out.hm 1
              by_cases hc : D < Y
              · have hd : decide (D < Y) = true := decide_eq_true hc
                have BXE := Ba.hide (BXV.out.m1 (by omega) (by omega) Y)
                have BE := Ba.hide (below_set (i := 1) (v := .int .i64 Y) BV.out (show w3.heap.size ≤ L + 1 by rw [HL.out]; omega))
                have HD : Hid (max D Y = Y) := by show _ = _; omega
                go_wp2_with fail
                go_roundw
                case rel => exact ⟨k + 1, by omega, by go_num, by rw [E1.out, E2.out, HA1.out, HB2.out]; exact BXE.out.hl, by rw [E3.out, E4.out, HC3.out, HD.out]; exact BXE.out.hm, BE.out⟩
                case measure => simp [intOf]; omega
              · have hd : decide (D < Y) = false := decide_eq_false hc
                have HD : Hid (max D Y = D) := by show _ = _; omega
                go_wp2_with fail
                go_roundw
                case rel => exact ⟨k + 1, by omega, by go_num, by rw [E1.out, E2.out, HA1.out, HB2.out]; exact BXV.out.hl, by rw [E3.out, E4.out, HC3.out, HD.out]; exact BXV.out.hm, BV.out⟩
                case measure => simp [intOf]; omega
      · have hlt' : ¬ ((k : Int) < (n : Int)) := by omega
        obtain rfl : k = n := by omega
        have l0 : wr.cell? ⟨L, 0, none⟩ = some (.int .i64 (lo (fun i => (f i).1) k)) := Ba.cell_of r1 0
        have l1 : wr.cell? ⟨L, 1, none⟩ = some (.int .i64 (lo (fun i => (f i).2) k)) := Ba.cell_of r1 1
        have lb := box_bd HB.out hn0
        have W1 := Ba.hide (fun u => whole_any wa wb _ _ _ _ u KK.out.1 KK.out.2.1 lb.1 lb.2.1)
        have W2 := Ba.hide (fun u => whole_any wa' wb' _ _ _ _ u KK.out.2.2.1 KK.out.2.2.2 lb.2.2.1 lb.2.2.2)
        simp only [decide_true, Bool.and_self] at W1 W2
        have R2 := Ba.hide r2
        have BL := Ba.hide bl
        generalize lo (fun i => (f i).1) k = A at *
        generalize lo (fun i => (f i).2) k = B at *
        generalize hi (fun i => (f i).1) k = C at *
        generalize hi (fun i => (f i).2) k = D at *
        clear r1 r2 bl lb
        go_wp2_with fail
        refine (W1.out _).mono ?_
        rintro r w5 ⟨rfl, b5⟩
        have R5 := Ba.heap_below R2.out b5
        have B5 := Ba.hide (Ba.btr BL.out b5)
        have m0 : w5.cell? ⟨L + 1, 0, none⟩ = some (.int .i64 C) := Ba.cell_of R5 0
        have m1 : w5.cell? ⟨L + 1, 1, none⟩ = some (.int .i64 D) := Ba.cell_of R5 1
        clear b5 R5
        go_wp2_with fail
        refine (W2.out _).mono ?_
        rintro r w6 ⟨rfl, b6⟩
        have B6 := Ba.hide (Ba.btr B5.out b6)
        clear b6
        go_wp2_with fail
        go_meet
        case rel => exact B6.out
  case rest =>
    have ZA := Ba.hide (ZA3.out.below hcut)
    have QA := Ba.hide (QA3.out.below hcut)
    have BB := Ba.hide (Ba.btr B3.out hcut)
    clear hcut ZA3 QA3 B3 x0 y0 hL
    rcases HT.out with ⟨rfl, rfl, rfl, un⟩ | ⟨ti, tk, rfl, rfl, rfl, t1, t2, t3, t4, un⟩
    · have UN := Ba.hide un
      clear un HT
      obtain ⟨oa, hoa⟩ : ∃ oa, some (Addr.mk bb oo none) = oa := ⟨_, rfl⟩
      rw [hoa] at QA ⊢
      clear hoa
      have AR := Ba.hide (area_any pa n pc f wc ZA.out HB.out hn)
      go_wp2_with fail
      refine AR.out.mono ?_
      rintro r w8 ⟨ar, rfl, har, e8⟩
      obtain rfl := e8.symm
      have SB := sm_bd HB.out n (Nat.le_refl _)
      obtain ⟨dr, D1, D2⟩ := Hf.twice har (by omega)
      have MU : ∀ z, (binOp .mul 48 (.float .f64 ar) (.float .f64 4611686018427387904)).run Try.prog z = .ok (.float .f64 dr) z := fun z => run_float_arith z .mul _ _ _ _ _ D1
      have DB := Ba.hide (double_any oa n c f wc QA.out hn HB.out)
      have ne : (FloatKind.f64.format.order dr (floatOfInt .f64 (sm (cr n f) n)) == some .eq) = true := (D2.eq (Hi.ofInt (n := sm (cr n f) n) (by omega))).trans (by simp)
      have ne2 : (FloatKind.f64.format.order dr (floatOfInt .f64 (sm (cr n f) n)) != some .eq) = false := by rw [bne, ne]; rfl
      generalize sm (cr n f) n = SS at *
      clear D1 D2 har SB AR ne
      go_wp2_with fail
      refine DB.out.mono ?_
      rintro r w9 ⟨rfl, b9⟩
      have QA9 := Ba.hide (QA.out.below b9)
      have B9 := Ba.hide (Ba.btr BB.out b9)
      clear b9 DB QA BB ZA
      go_wp2_with fail
      go_loopw [105] (fun i wr => ∃ k : Nat, k ≤ n ∧ i = .int .i64 (k : Int) ∧ Below w9.heap.size w9 wr) (fun i _ => n - (intOf i).toNat)
      case atStart => exact ⟨0, Nat.zero_le _, rfl, Below.refl _ _⟩
      case round =>
        obtain ⟨k, hk, rfl, bl⟩ := hrel
        have BL := Ba.hide bl
        clear bl
        by_cases hlt : k < n
        · have hlt' : (k : Int) < (n : Int) := by omega
          go_wp2_with fail
          rename World => wk
          go_loopw [16] (fun i wr => ∃ m : Nat, m ≤ k ∧ i = .int .i64 (m : Int) ∧ Below w9.heap.size w9 wr) (fun i _ => k - (intOf i).toNat)
          case atStart => exact ⟨0, Nat.zero_le _, rfl, BL.out⟩
          case round =>
            obtain ⟨m, hm, rfl, bm⟩ := hrel
            have BM := Ba.hide bm
            clear bm BL
            by_cases hlm : m < k
            · have hlm' : (m : Int) < (k : Int) := by omega
              have hmn' : (m : Int) < (n : Int) := by omega
              have hne := UN.out m k hlm hlt
              obtain ⟨b1, o1, rfl, c1, c2⟩ := QA9.out.below BM.out m (by omega)
              obtain ⟨b2, o2, e, c3, c4⟩ := QA9.out.below BM.out k hlt
              cases e
              have hq : ((f m).1 == (f k).1 && (f m).2 == (f k).2) = false := by
                rw [Bool.eq_false_iff]; intro h; simp at h; exact hne (Prod.ext h.1 h.2)
              have EQ := fun u => eqP (f m).1 (f m).2 (f k).1 (f k).2 u
              rw [hq] at EQ
              generalize (f m).1 = X1 at *
              generalize (f m).2 = X2 at *
              generalize (f k).1 = Y1 at *
              generalize (f k).2 = Y2 at *
              clear hne hq
              go_wp2_with fail
              go_quiet (fail)
              go_wp2_with fail
              go_roundw
              case rel => exact ⟨m + 1, by omega, by go_num, Ba.btr BM.out (Ba.bdrew _ _)⟩
              case measure => simp [intOf]; omega
            · have hlm' : ¬ ((m : Int) < (k : Int)) := by omega
              go_wp2_with fail
              go_roundw
              case rel => exact ⟨k + 1, by omega, by go_num, BM.out⟩
              case measure => simp [intOf]; omega
        · have hlt' : ¬ ((k : Int) < (n : Int)) := by omega
          go_wp2_with fail
          refine (two_any _).mono ?_
          rintro r wa ⟨rfl, ba⟩
          have BA := Ba.hide (Ba.btr (Ba.btr B9.out BL.out) ba)
          clear ba
          go_wp2_with fail
          go_ret
          exact ⟨rfl, BA.out⟩
    · have UN := Ba.hide un
      have TE := Ba.hide t3
      have TM := Ba.hide t4
      clear un HT t3 t4
      obtain ⟨oa, hoa⟩ : ∃ oa, some (Addr.mk bb oo none) = oa := ⟨_, rfl⟩
      rw [hoa] at QA ⊢
      clear hoa
      have AR := Ba.hide (area_any pa n pc f wc ZA.out HB.out hn)
      go_wp2_with fail
      refine AR.out.mono ?_
      rintro r w8 ⟨ar, rfl, har, e8⟩
      obtain rfl := e8.symm
      have SB := sm_bd HB.out n (Nat.le_refl _)
      obtain ⟨dr, D1, D2⟩ := Hf.twice har (by omega)
      have MU : ∀ z, (binOp .mul 48 (.float .f64 ar) (.float .f64 4611686018427387904)).run Try.prog z = .ok (.float .f64 dr) z := fun z => run_float_arith z .mul _ _ _ _ _ D1
      have DB := Ba.hide (double_any oa n c f wc QA.out hn HB.out)
      have ne : (FloatKind.f64.format.order dr (floatOfInt .f64 (sm (cr n f) n)) == some .eq) = true := (D2.eq (Hi.ofInt (n := sm (cr n f) n) (by omega))).trans (by simp)
      have ne2 : (FloatKind.f64.format.order dr (floatOfInt .f64 (sm (cr n f) n)) != some .eq) = false := by rw [bne, ne]; rfl
      generalize sm (cr n f) n = SS at *
      clear D1 D2 har SB AR ne
      go_wp2_with fail
      refine DB.out.mono ?_
      rintro r w9 ⟨rfl, b9⟩
      have QA9 := Ba.hide (QA.out.below b9)
      have B9 := Ba.hide (Ba.btr BB.out b9)
      clear b9 DB QA BB ZA
      go_wp2_with fail
      go_loopw [105] (fun i wr => ∃ k : Nat, k ≤ tk ∧ i = .int .i64 (k : Int) ∧ Below w9.heap.size w9 wr) (fun i _ => n - (intOf i).toNat)
      case atStart => exact ⟨0, Nat.zero_le _, rfl, Below.refl _ _⟩
      case round =>
        obtain ⟨k, hk, rfl, bl⟩ := hrel
        have BL := Ba.hide bl
        clear bl
        have hlt : k < n := by omega
        have hlt' : (k : Int) < (n : Int) := by omega
        go_wp2_with fail
        rename World => wk
        go_loopw [16] (fun i wr => ∃ m : Nat, m ≤ k ∧ (k = tk → m ≤ ti) ∧ i = .int .i64 (m : Int) ∧ Below w9.heap.size w9 wr) (fun i _ => k - (intOf i).toNat)
        case atStart => exact ⟨0, Nat.zero_le _, fun _ => Nat.zero_le _, rfl, BL.out⟩
        case round =>
          obtain ⟨m, hm, hmt, rfl, bm⟩ := hrel
          have BM := Ba.hide bm
          clear bm BL
          by_cases hlm : m < k
          · have hlm' : (m : Int) < (k : Int) := by omega
            have hmn' : (m : Int) < (n : Int) := by omega
            obtain ⟨b1, o1, rfl, c1, c2⟩ := QA9.out.below BM.out m (by omega)
            obtain ⟨b2, o2, e, c3, c4⟩ := QA9.out.below BM.out k hlt
            cases e
            have EQ := fun u => eqP (f m).1 (f m).2 (f k).1 (f k).2 u
            by_cases hit : k = tk ∧ m = ti
            · obtain ⟨rfl, rfl⟩ := hit
              have hq : ((f m).1 == (f k).1 && (f m).2 == (f k).2) = true := by rw [TE.out]; simp
              rw [hq] at EQ
              have z1 : ((m : Int) == (m : Int)) = true := by simp
              have z2 : ((k : Int) == (k : Int)) = true := by simp
              generalize (f m).1 = X1 at *
              generalize (f m).2 = X2 at *
              generalize (f k).1 = Y1 at *
              generalize (f k).2 = Y2 at *
              clear hq hmt
              go_wp2_with fail
              go_quiet (fail)
              go_wp2_with fail
              refine (two_any _).mono ?_
              rintro r wa ⟨rfl, ba⟩
              have BA := Ba.hide (Ba.btr (Ba.btr (Ba.btr B9.out BM.out) (Ba.bdrew _ _)) ba)
              clear ba
              go_wp2_with fail
              go_ret
              exact ⟨rfl, BA.out⟩
            · have hne : f m ≠ f k := by
                by_cases hkt : k = tk
                · subst hkt
                  have := hmt rfl
                  exact TM.out m (by omega)
                · exact UN.out m k hlm (by omega)
              have hq : ((f m).1 == (f k).1 && (f m).2 == (f k).2) = false := by
                rw [Bool.eq_false_iff]; intro h; simp at h; exact hne (Prod.ext h.1 h.2)
              rw [hq] at EQ
              have HM : Hid (k = tk → m + 1 ≤ ti) := fun hkt => by have := hmt hkt; omega
              generalize (f m).1 = X1 at *
              generalize (f m).2 = X2 at *
              generalize (f k).1 = Y1 at *
              generalize (f k).2 = Y2 at *
              clear hne hq hmt hit
              go_wp2_with fail
              go_quiet (fail)
              go_wp2_with fail
              go_roundw
              case rel => exact ⟨m + 1, by omega, HM.out, by go_num, Ba.btr BM.out (Ba.bdrew _ _)⟩
              case measure => simp [intOf]; omega
          · have hlm' : ¬ ((m : Int) < (k : Int)) := by omega
            have hkk : k < tk := by
              rcases Nat.lt_or_ge k tk with h | h
              · exact h
              · have : k = tk := by omega
                have := hmt this
                omega
            clear hmt
            go_wp2_with fail
            go_roundw
            case rel => exact ⟨k + 1, by omega, by go_num, BM.out⟩
            case measure => simp [intOf]; omega
theorem core {w : World} (oa : Option Addr) (l : List (List Int)) (c : Nat) (hA : QAt w oa l.length (fun i => (Ba.nth (l.getD i []) 0, Ba.nth (l.getD i []) 1))) (hm : l.length ≤ maxLen) :
    Calls Try.prog 5 #[.slice oa l.length c] w fun e w' => e = .returned (.bool true) ∧ Below w.heap.size w w' := core' oa l.length c _ hA hm

/-! ### the row -/
set_option maxRecDepth 100000 in
theorem lifted (os : Os) (started : os.Started) (H : Type) (enc : TypeId × Value → H) :
    ReturnsInHanded {} Try.checked os 5 .any (Rows.walkBoxesSpec.pre6 enc Try.prog Try.f5 Rows.walkBoxesRow.domain false) (Rows.walkBoxesSpec.post enc Try.prog Try.f5 false true false false) := by
  refine returnsInHanded_of_change (C := Try.checked) own started (by kernel_rfl) Try.func5
    (ChangeSpec.witness6 (enc := enc) (C := Try.checked) false ⟨#[], #[.slice none 0 0], []⟩ 8 (by kernel_rfl) (by kernel_rfl) (by kernel_rfl) (by kernel_rfl)) ?_
  intro W base args ds gs before hval0 hW hcnd _
  have hval : ∀ (j : Nat) t v, Try.f5.params[j]? = some t → args[j]? = some v → Value.okWide Try.prog W .any base t v := hval0
  have hW' := hW
  obtain ⟨p, q, hA0, hV, rfl, hfz, hnd⟩ := hW
  have hA : DataW.TrodAll enc Try.prog W 0 (fun _ => true) true Try.f5.params.toList args.toList ds p := hA0
  rw [Try.params5] at hA hval
  obtain ⟨v0, vs0, d0, ds0, p0, q0, hargs, rfl, rfl, h0, r0⟩ := trodAll_cons hA
  obtain ⟨rfl, rfl, rfl⟩ := trodAll_nil r0
  obtain rfl : args = #[v0] := by cases args; simp_all
  obtain ⟨rfl, rfl⟩ := trodVars_none hV
  obtain ⟨oa0, n0, c0, rfl⟩ := okWide_slice Try.underlying31 (hval 0 31 v0 rfl rfl)
  have k0 := h0
  have lt0 : ∀ x ∈ p0, x.block < W.heap.size := by obtain ⟨m, hm⟩ := k0; exact DataW.trod_lt m _ _ _ hm
  obtain ⟨l0, rfl, A0, C0, M0⟩ := h0.elim fun _ hf => places_open hf
  clear hA0 hval0
  refine (core (w := W) oa0 l0 c0 A0 (Nat.le_trans C0 M0)).mono fun e W' ⟨he, bel⟩ => ?_
  subst he
  exact ⟨_, rfl, _, _, _, [], _, [], hW', trodAll_mk1 (shut_bool Try.underlying4 _), (trodAll_cons_mk (Below.trod laidOut (by kernel_rfl) (of_decide_eq_true (by kernel_rfl)) k0 bel lt0) trodAll_mk0), rfl, bel.frame _, fun h => by cases h⟩

theorem over : Rows.walkBoxesRow.holds Try.pinned (OpenSpec.ofChange Rows.walkBoxesSpec) :=
  OpenClaim.holds_of_wide 5 Try.f5 rfl rfl rfl rfl rfl rfl rfl ⟨rfl, rfl, rfl, rfl, rfl⟩ rfl rfl rfl rfl rfl (by kernel_rfl) Try.func5 (by kernel_rfl)
    (of_decide_eq_true (by kernel_rfl)) (by unfold Func.isWrapper; first | (rw [if_pos (by decide +kernel)]; kernel_rfl) | (rw [if_neg (by decide +kernel)]; exact ⟨rfl, rfl⟩))
    (fun os started H enc _ => lifted os started H enc)

/-- the statement -/
theorem proved : Rows.WalkBoxesSaid := over
#print axioms proved
end Go.Proofs.Ytgmkknaagbjcmaa.walkBoxes
